/-
  The contracts of the statements' own cut and few.
-/
import Derived.Test.YtfcmkbeilpclmaaFndC
import Derived.Deep.AppendLies
import Derived.Laws.CopyOwn
import Derived.Laws.OwnMore
import Derived.Deep.Cut
import Derived.Deep.DeepCutAuto
import Derived.Deep.CutBlock
namespace Go.Proofs.Ytfcmkbeilpclmaa
open Go.RowKit Go.Lib
set_option linter.unusedVariables false

theorem fcut_any (l : List UInt8) (w : World) : Calls Try.prog 19 #[.string (S l)] w fun e w' => e = .returned (.string (S (l.take 300))) ∧ w' = w := by
  by_cases h : (300 : Int) < (l.length : Int)
  · go_enter Try.func19, Try.ntmps19
    go_wp2_with fail
    go_ret
    exact ⟨rfl, rfl⟩
  · have ht : l.take 300 = l := List.take_of_length_le (by omega)
    have HT := Lib.hid ht
    clear ht
    go_enter Try.func19, Try.ntmps19
    go_wp2_with fail
    go_ret
    exact ⟨by rw [HT.out]; rfl, rfl⟩

namespace Fnd
def cutV (v : Val) : Val := ⟨v.kind, v.flag, v.int, v.bits, v.text.take 300⟩
def fewT (t : Trm) : Trm := ⟨t.name.take 300, cutV t.low, cutV t.high, t.hasLow, t.hasTop, t.neg⟩
def fewTs (T : List Trm) : List Trm := (T.take 20).map fewT
theorem fewTs_len (T : List Trm) : (fewTs T).length ≤ 20 := by unfold fewTs; rw [List.length_map, List.length_take]; omega
theorem cutV_ok {v : Val} (h : v.ok) : (cutV v).ok := h
theorem fewTs_ok {T : List Trm} (h : ∀ t ∈ T, t.low.ok ∧ t.high.ok) : ∀ t ∈ fewTs T, t.Ok := by
  intro t ht
  obtain ⟨u, hu, rfl⟩ := List.mem_map.1 ht
  have := h u (List.mem_of_mem_take hu)
  exact ⟨this.1, this.2, by show (u.name.take 300).length ≤ 1000000; rw [List.length_take]; omega⟩
/-- A query as a value. -/
def qcs (A : Option Addr) (n cap : Nat) (nm : List UInt8) (d : Bool) (m : Int) : Array Value := #[.slice A n cap, .string (S nm), .bool d, .int .i64 m]
end Fnd
theorem tInfo : (Try.prog.info? 37).map (fun i => (i.zero, i.size, i.bytes)) = some (some (.agg (tcs [] 0 false 0 0 [] 0 false 0 0 [] false false false)), 14, 120) := by kernel_rfl
theorem qSize : (Try.prog.info? 24).map (·.size) = some 4 := by kernel_rfl
/-- A query that lies in a block, handed back. -/
theorem ret_qry {fn : Func} {p : Tmp} {R : Ending → World → Prop} {a : Act} {w : World} (h : fn.results = #[.cell p 24]) (g : Nat) (cs : Array Value)
    (hp : a.tmps.getD p undef = .pointer (some ⟨g, 0, none⟩)) (hd : a.defers = []) (hh : Has w g 24 cs) (hcs : cs.size = 4) (hR : R (.returned (.agg cs)) w) : bodyPost Try.prog fn R .ret a w :=
  bodyPost_ret (v := .agg cs) (results_cell_row h _ _ g 24 cs (0, 0) _ hp hh Try.underlying24 rfl (by rw [hcs]; exact qSize)) hd hR
abbrev QryS (b : Nat) (A : Option Addr) (n cap : Nat) (nm : List UInt8) (d : Bool) (m : Int) (W : World) : Prop :=
  W.cell? ⟨b, 0, none⟩ = some (.slice A n cap) ∧ W.cell? ⟨b, 1, none⟩ = some (.string (S nm)) ∧ W.cell? ⟨b, 2, none⟩ = some (.bool d) ∧ W.cell? ⟨b, 3, none⟩ = some (.int .i64 m)
theorem qlies {W : World} {b : Nat} {A : Option Addr} {n cap : Nat} {nm : List UInt8} {d : Bool} {m : Int} {T : TypeId} (h : Has W b T #[.slice A n cap, .string (S nm), .bool d, .int .i64 m]) : QryS b A n cap nm d m W := ⟨h.cell 0, h.cell 1, h.cell 2, h.cell 3⟩
theorem madeTrm (w : World) (t : Fnd.Trm) {T : TypeId} : ∀ (j : Nat) (u : Value), t.cs[j]? = some u → (w.alloc (.cells t.cs.toArray T)).cell? ((⟨w.heap.size, 0, none⟩ : Addr).add j) = some u := by
  intro j u hu
  rw [add_flat', Nat.zero_add, (Has.made w T t.cs.toArray).cell j]
  rw [← hu]
  exact List.getElem?_toArray ..
theorem fndGrown {B : Nat} {w w3 w5 : World} {row : Option Nat} (h : Below B w w3) (hg : w3.grownBy w5 row) (hB : B ≤ w3.heap.size) (hr : ∀ k, row = some k → B ≤ k) : Below B w w5 :=
  ⟨hg.os.trans h.os, hg.tape.trans h.tape, hg.output.trans h.output, Nat.le_trans h.size hg.size, fun i hi => (hg.block i (Nat.lt_of_lt_of_le hi hB) (fun e => by have := hr i e.symm; omega)).trans (h.block i hi)⟩

/-- What few leaves. -/
def FewQ (w : World) (s : List Nat) (T : List Fnd.Trm) (nm : List UInt8) (d : Bool) (m : Int) (r : Ending) (w' : World) : Prop :=
  ∃ A cap, r = .returned (.agg #[.slice A (Fnd.fewTs T).length cap, .string (S (nm.take 300)), .bool d, .int .i64 m]) ∧ RowC w' s A (tms (Fnd.fewTs T)) ∧ (Fnd.fewTs T).length ≤ cap ∧ cap ≤ 9223372036854775807 ∧ Below w.heap.size w w'
set_option maxHeartbeats 16000000 in
set_option maxRecDepth 100000 in
theorem fewQ_any {w : World} {T : List Fnd.Trm} {A : Option Addr} {cap : Nat} (s : List Nat) (hs : ∀ x ∈ s, x < w.heap.size) (nm : List UInt8) (d : Bool) (m : Int) (hrow : RowTm w A T) (hlc : T.length ≤ cap) (hcm : cap ≤ 9223372036854775807) :
    Calls Try.prog 8 #[.agg #[.slice A T.length cap, .string (S nm), .bool d, .int .i64 m]] w (FewQ w s T nm d m) := by
  have HROW := Lib.hid hrow; clear hrow
  have HSS := Lib.hid hs; clear hs
  obtain ⟨i0, hi0, hz0, hz1, hz2⟩ := info_parts tInfo
  have HI := Lib.hid (And.intro hi0 (And.intro hz0 (And.intro hz1 hz2)))
  clear hi0 hz0 hz1 hz2
  have HC := Lib.hid (fun W => fcut_any nm W)
  have hQ := (Has.made w 24 #[.slice A T.length cap, .string (S nm), .bool d, .int .i64 m]).of_alloc (.cells #[.slice none 0 0, .string ⟨#[]⟩, .bool false, .int .i64 0] 24)
  have hR := has_new w (.cells #[.slice A T.length cap, .string (S nm), .bool d, .int .i64 m] 24) 24 #[.slice none 0 0, .string ⟨#[]⟩, .bool false, .int .i64 0]
  have hB := up2 (w := w) (.cells #[.slice A T.length cap, .string (S nm), .bool d, .int .i64 m] 24) (.cells #[.slice none 0 0, .string ⟨#[]⟩, .bool false, .int .i64 0] 24)
  have hz : ((w.alloc (.cells #[.slice A T.length cap, .string (S nm), .bool d, .int .i64 m] 24)).alloc (.cells #[.slice none 0 0, .string ⟨#[]⟩, .bool false, .int .i64 0] 24)).heap.size = w.heap.size + 2 := by simp
  go_enter Try.func8, Try.ntmps8
  go_upto_region 1 with fail
  generalize (w.alloc (.cells #[.slice A T.length cap, .string (S nm), .bool d, .int .i64 m] 24)).alloc (.cells #[.slice none 0 0, .string ⟨#[]⟩, .bool false, .int .i64 0] 24) = W0 at hQ hR hB hz ⊢
  obtain ⟨b1, hb1⟩ : ∃ b1, w.heap.size = b1 := ⟨_, rfl⟩
  have HB := Lib.hid hB
  have HQ := Lib.hid hQ
  have HR := Lib.hid hR
  clear hB hQ hR
  rw [hb1] at HQ HR hz ⊢
  have hy : QryS b1 A T.length cap nm d m W0.drew := qlies HQ.out
  have hy3 : QryS b1 A T.length cap nm d m (W0.alloc (.cells #[.slice none 0 0, .string ⟨#[]⟩, .bool false, .int .i64 0] 24)).drew := qlies (HQ.out.of_alloc _)
  have hy4 : QryS b1 A T.length cap nm d m (W0.alloc (.cells #[.slice none 0 0, .string (S (nm.take 300)), .bool d, .int .i64 m] 24)).drew := qlies (HQ.out.of_alloc _)
  have HMK : Hid (Has (W0.alloc (.cells #[.slice none 0 0, .string (S (nm.take 300)), .bool d, .int .i64 m] 24)).drew (b1 + 2) 24 #[.slice none 0 0, .string (S (nm.take 300)), .bool d, .int .i64 m] ∧ Below (b1 + 2) W0 (W0.alloc (.cells #[.slice none 0 0, .string (S (nm.take 300)), .bool d, .int .i64 m] 24)).drew ∧ b1 + 3 ≤ (W0.alloc (.cells #[.slice none 0 0, .string (S (nm.take 300)), .bool d, .int .i64 m] 24)).drew.heap.size) := by
    have h1 := Has.made W0 24 #[.slice none 0 0, .string (S (nm.take 300)), .bool d, .int .i64 m]
    have h2 := up1 (w := W0) (.cells #[.slice none 0 0, .string (S (nm.take 300)), .bool d, .int .i64 m] 24)
    have h3 := asize W0 (.cells #[.slice none 0 0, .string (S (nm.take 300)), .bool d, .int .i64 m] 24)
    rw [hz] at h1 h2 h3
    exact ⟨h1, h2.drew, Nat.le_of_eq h3.symm⟩
  go_cut [3] from 6 to 13 (fun v3 wc => v3 = .pointer (some ⟨b1 + 2, 0, none⟩) ∧ Hid (Has wc (b1 + 2) 24 #[.slice none 0 0, .string (S (nm.take 300)), .bool d, .int .i64 m] ∧ Below (b1 + 2) W0 wc ∧ b1 + 3 ≤ wc.heap.size))
  case first =>
    go_region_held3 (QryS b1 A T.length cap nm d m) (first | exact hy | exact hy3 | exact hy4 | go_keep) (first
      | (go_at_call 19; refine (HC.out _).mono ?_; rintro r w4 ⟨rfl, rfl⟩))
    all_goals
      clear hy hy3 hy4
      go_wp2_with fail
      go_meet
      case rel => exact ⟨rfl, HMK⟩
  case rest =>
    obtain ⟨rfl, HC1⟩ := hcut
    clear hy hy3 hy4 HMK HC
    obtain ⟨hO1, hbc, hsc⟩ := HC1.out
    clear HC1
    have HK : Hid (∀ W, Below (b1 + 2) W0 W → Has W b1 24 #[.slice A T.length cap, .string (S nm), .bool d, .int .i64 m] ∧ Has W (b1 + 1) 24 #[.slice none 0 0, .string ⟨#[]⟩, .bool false, .int .i64 0] ∧ RowTm W A T ∧ Below w.heap.size w W) := fun W hb => ⟨HQ.out.below hb (by omega), HR.out.below hb (by omega), (HROW.out.below HB.out).below (hb.mono (by omega)), HB.out.trans (hb.mono (by omega))⟩
    clear HQ HR HROW HB
    have hb1' : b1 + 3 ≤ b1 + 3 := Nat.le_refl _
    go_wp2_with fail
    go_loopg [4] T.length (fun g1 v4 wr => ∃ (k : Nat) (v : Value), k ≤ T.length ∧ k ≤ 20 ∧ v4 = .int .i64 (k : Int) ∧ T.length - k ≤ g1 ∧ wr.ownsRow (b1 + 3) 37 14 v k (tms ((T.take k).map Fnd.fewT)) ∧
        Has wr (b1 + 2) 24 #[v, .string (S (nm.take 300)), .bool d, .int .i64 m] ∧ Below (b1 + 2) W0 wr ∧ b1 + 3 ≤ wr.heap.size)
    case atStart => exact ⟨0, .slice none 0 0, Nat.zero_le _, by omega, rfl, by omega, World.ownsRow_nil _ _ _ _, hO1, hbc, hsc⟩
    case round =>
      clear hO1 hbc hsc
      obtain ⟨k, v, hk, hk20, rfl, hg, hown, hOk, hbk, hsk⟩ := hrel
      obtain ⟨hQk, hRk, hFk, hbw⟩ := HK.out _ hbk
      obtain ⟨q0, q1, q2, q3⟩ := qlies hQk
      have c0 := hOk.cell 0
      by_cases hlt : k < T.length ∧ k < 20
      · have hki : (k : Int) < (T.length : Int) := by omega
        have hki2 : (k : Int) < 20 := by omega
        have hki0 : (0 : Int) ≤ (k : Int) := by omega
        have hkc : (k : Int) < (cap : Int) := by omega
        obtain ⟨bt, ot, hA, hbt, hct⟩ := RowTm.get hFk k hlt.1
        subst hA
        have hstep : (T.take (k + 1)).map Fnd.fewT = (T.take k).map Fnd.fewT ++ [Fnd.fewT T[k]] := by rw [List.take_succ_eq_append_getElem hlt.1, List.map_append]; rfl
        generalize T[k] = x at hct hstep
        obtain ⟨n, ⟨lk, lf, li, lb, lt⟩, ⟨hk1, hf, hi, hb, ht⟩, a, b, c⟩ := x
        have y0 : wr.cell? ⟨bt, ot + k * 14, none⟩ = some (.string (S n)) := hct 0 _ rfl
        have y1 := hct 1 _ rfl
        have y2 := hct 2 _ rfl
        have y3 := hct 3 _ rfl
        have y4 := hct 4 _ rfl
        have y5 := hct 5 _ rfl
        have y6 := hct 6 _ rfl
        have y7 := hct 7 _ rfl
        have y8 := hct 8 _ rfl
        have y9 := hct 9 _ rfl
        have y10 := hct 10 _ rfl
        have y11 := hct 11 _ rfl
        have y12 := hct 12 _ rfl
        have y13 := hct 13 _ rfl
        clear hct hQk hRk hFk hbw
        have hfw : Fnd.fewT ⟨n, ⟨lk, lf, li, lb, lt⟩, ⟨hk1, hf, hi, hb, ht⟩, a, b, c⟩ = ⟨n.take 300, ⟨lk, lf, li, lb, lt.take 300⟩, ⟨hk1, hf, hi, hb, ht.take 300⟩, a, b, c⟩ := rfl
        rw [hfw] at hstep
        have HC1 := Lib.hid (fun W => fcut_any n W)
        have HC2 := Lib.hid (fun W => fcut_any lt W)
        have HC3 := Lib.hid (fun W => fcut_any ht W)
        generalize n.take 300 = n1 at hstep HC1
        generalize lt.take 300 = lt1 at hstep HC2
        generalize ht.take 300 = ht1 at hstep HC3
        clear hfw
        have HST := Lib.hid hstep; clear hstep
        have HW8 : Hid (_ : Prop) := Lib.hid (And.intro (Has.made wr 37 (tcs n1 lk lf li lb lt1 hk1 hf hi hb ht1 a b c)) (And.intro (hown.alloc (.cells (tcs n1 lk lf li lb lt1 hk1 hf hi hb ht1 a b c) 37)) (And.intro (hOk.of_alloc (.cells (tcs n1 lk lf li lb lt1 hk1 hf hi hb ht1 a b c) 37)) (And.intro (hbk.trans ((up1 (w := wr) (.cells (tcs n1 lk lf li lb lt1 hk1 hf hi hb ht1 a b c) 37)).mono (by omega))) (show b1 + 3 ≤ (wr.alloc (.cells (tcs n1 lk lf li lb lt1 hk1 hf hi hb ht1 a b c) 37)).heap.size by rw [asize]; omega)))))
        clear hown hOk hbk
        go_wp2_with fail
        refine (HC1.out _).mono ?_
        rintro r w4 ⟨rfl, e4⟩
        rw [e4]
        clear e4 w4
        go_wp2_with fail
        refine (HC2.out _).mono ?_
        rintro r w4 ⟨rfl, e4⟩
        rw [e4]
        clear e4 w4
        go_wp2_with fail
        refine (HC3.out _).mono ?_
        rintro r w4 ⟨rfl, e4⟩
        rw [e4]
        clear e4 w4
        go_upto_region 9 with fail
        clear c0 q0 q1 q2 q3 y0 y1 y2 y3 y4 y5 y6 y7 y8 y9 y10 y11 y12 y13 HC1 HC2 HC3
        obtain ⟨hf8, ho8, hO8, hb8, hs8⟩ := HW8.out
        clear HW8
        generalize wr.alloc (.cells (tcs n1 lk lf li lb lt1 hk1 hf hi hb ht1 a b c) 37) = W8 at hf8 ho8 hO8 hb8 hs8 ⊢
        have c0 := hO8.cell 0
        obtain ⟨y0, y1, y2, y3, y4, y5, y6, y7, y8, y9, y10, y11, y12, y13⟩ := tlies hf8
        have HB := Lib.hid (And.intro (hO8.of_alloc (.cells (tcs n1 lk lf li lb lt1 hk1 hf hi hb ht1 a b c) 37)) (And.intro (ho8.alloc (.cells (tcs n1 lk lf li lb lt1 hk1 hf hi hb ht1 a b c) 37)) (And.intro (hb8.trans ((up1 (w := W8) (.cells (tcs n1 lk lf li lb lt1 hk1 hf hi hb ht1 a b c) 37)).mono (by omega))) (And.intro (show b1 + 3 ≤ (W8.alloc (.cells (tcs n1 lk lf li lb lt1 hk1 hf hi hb ht1 a b c) 37)).heap.size by rw [asize]; omega) (madeTrm W8 ⟨n1, ⟨lk, lf, li, lb, lt1⟩, ⟨hk1, hf, hi, hb, ht1⟩, a, b, c⟩ (T := 37))))))
        clear hf8 ho8 hO8 hb8
        go_wp2_with (at_builtin; refine wpList_append_own _ rfl (.tmp 47) (.tmp 49) 22 rfl (b1 + 3) 37 i0 (.agg (tcs [] 0 false 0 0 [] 0 false 0 0 [] false false false)) 14 120 Try.underlying22 HI.out.1 HI.out.2.1 HI.out.2.2.1 HI.out.2.2.2 rfl (by decide) v k (tms ((T.take k).map Fnd.fewT)) rfl HB.out.2.1 ⟨W8.heap.size, 0, none⟩ 1 1 (Fnd.Trm.cs ⟨n1, ⟨lk, lf, li, lb, lt1⟩, ⟨hk1, hf, hi, hb, ht1⟩, a, b, c⟩) rfl rfl HB.out.2.2.2.2 (Fnd.Trm.cs_one _) (by simp only [maxLen]; omega) (by omega) HB.out.2.2.2.1 ?_; intro v9 w9 hown9 hg9 hnil9; rw [tms_snoc, ← HST.out] at hown9; have hgb : ∀ q, v.ownBlock = some q → b1 + 3 ≤ q := fun q hq => (HB.out.2.1.lt q hq).1; have hO9 : Has w9 (b1 + 2) 24 #[v, .string (S (nm.take 300)), .bool d, .int .i64 m] := (hg9.block _ HB.out.1.lt (fun e => by have := hgb _ e.symm; omega)).trans HB.out.1; have hD9 : Below (b1 + 2) W0 w9 := HB.out.2.2.1.grown hg9 (by have := HB.out.2.2.2.1; omega) (fun q hq => by have := hgb q hq; omega); have hs9 : b1 + 3 ≤ w9.heap.size := Nat.le_trans HB.out.2.2.2.1 hg9.size; obtain ⟨g9, cp9, rfl⟩ : ∃ g9 cp9, v9 = .slice (some ⟨g9, 0, none⟩) (k + 1) cp9 := hown9.2.elim (fun h => absurd h.2 (by omega)) (fun ⟨g9, cp9, cur, h9, _⟩ => ⟨g9, cp9, h9⟩); have d0 := hO9.cell 0; have f0 := hO9.free 0)
        have hO10 : Has (w9.setCell ⟨b1 + 2, 0, none⟩ (.slice (some ⟨g9, 0, none⟩) (k + 1) cp9)) (b1 + 2) 24 #[(.slice (some ⟨g9, 0, none⟩) (k + 1) cp9), .string (S (nm.take 300)), .bool d, .int .i64 m] := by simpa using hO9.set 0 (.slice (some ⟨g9, 0, none⟩) (k + 1) cp9)
        have ho10 := Only.set w9 (b1 + 2) 0 (.slice (some ⟨g9, 0, none⟩) (k + 1) cp9)
        have hD10 := ho10.below hD9 (by omega) (by omega)
        have hA10 := own_mv hown9 (Mv.of_only ho10 (s := [b1 + 2]) (by simp)) (by simp)
        have hs10 := Nat.le_trans hs9 ho10.size
        go_roundg (T.length - (k + 1))
        case measure => omega
        case rel => exact ⟨k + 1, (.slice (some ⟨g9, 0, none⟩) (k + 1) cp9), by omega, by omega, by go_num, Nat.le_refl _, hA10, hO10, hD10, hs10⟩
      · have hkl : (T.take k).map Fnd.fewT = Fnd.fewTs T := by
          unfold Fnd.fewTs
          rcases Nat.lt_or_ge k T.length with h | h
          · have : k = 20 := by omega
            rw [this]
          · rw [List.take_of_length_le (by omega), List.take_of_length_le (by omega)]
        have hlen : (Fnd.fewTs T).length = k := by rw [← hkl, List.length_map, List.length_take]; omega
        rw [hkl] at hown
        clear hkl
        obtain ⟨A', cap', rfl, hlc', hcm', -, -, hrow'⟩ := own_rowC hown (s := (b1 + 1) :: s) (fun x hx => (List.mem_cons.1 hx).elim (fun e => by omega) (fun hx => by have := HSS.out x hx; omega)) (by decide)
        have hR0 := hRk.cell 0; have hR1 := hRk.cell 1; have hR2 := hRk.cell 2; have hR3 := hRk.cell 3; have f0 := hRk.free 0; have f1 := hRk.free 1; have f2 := hRk.free 2; have f3 := hRk.free 3
        obtain ⟨o0, o1, o2, o3⟩ := qlies hOk
        have hfin : Has ((((wr.setCell ⟨b1 + 1, 0, none⟩ (.slice A' k cap')).setCell ⟨b1 + 1, 1, none⟩ (.string (S (nm.take 300)))).setCell ⟨b1 + 1, 2, none⟩ (.bool d)).setCell ⟨b1 + 1, 3, none⟩ (.int .i64 m)) (b1 + 1) 24 #[.slice A' k cap', .string (S (nm.take 300)), .bool d, .int .i64 m] := by
          have := (((hRk.set 0 (.slice A' k cap')).set 1 (.string (S (nm.take 300)))).set 2 (.bool d)).set 3 (.int .i64 m)
          simpa using this
        have hoo := (((Only.set wr (b1 + 1) 0 (.slice A' k cap')).trans (Only.set _ (b1 + 1) 1 (.string (S (nm.take 300))))).trans (Only.set _ (b1 + 1) 2 (.bool d))).trans (Only.set _ (b1 + 1) 3 (.int .i64 m))
        have hob := hoo.below hbw (by omega) (by omega)
        have hff := hrow'.mv (Mv.of_only hoo (s := [b1 + 1]) (by simp)) (by simp)
        have HFIN := Lib.hid (And.intro hfin (And.intro hob (hff.sub (t := s) (fun x hx => List.mem_cons_of_mem _ hx)))); clear hfin hob hff hoo hbw hRk hQk hFk hOk hown hrow' c0
        have HLL := Lib.hid (And.intro hlen (And.intro hlc' hcm')); clear hlen hlc' hcm'
        have hstop : (k : Int) < (T.length : Int) → ¬ (k : Int) < 20 := by intro h; omega
        have hfinal : FewQ w s T nm d m (.returned (.agg #[.slice A' k cap', .string (S (nm.take 300)), .bool d, .int .i64 m])) ((((wr.setCell ⟨b1 + 1, 0, none⟩ (.slice A' k cap')).setCell ⟨b1 + 1, 1, none⟩ (.string (S (nm.take 300)))).setCell ⟨b1 + 1, 2, none⟩ (.bool d)).setCell ⟨b1 + 1, 3, none⟩ (.int .i64 m)) := ⟨A', cap', by rw [HLL.out.1], HFIN.out.2.2, by rw [HLL.out.1]; exact HLL.out.2.1, HLL.out.2.2, HFIN.out.2.1⟩
        have HF := Lib.hid hfinal; clear hfinal
        by_cases hkL : (k : Int) < (T.length : Int)
        · have hk3 := hstop hkL
          clear hstop
          go_wp2_with fail
          exact ret_qry (p := 2) rfl (b1 + 1) _ rfl rfl HFIN.out.1 rfl HF.out
        · clear hstop
          go_wp2_with fail
          exact ret_qry (p := 2) rfl (b1 + 1) _ rfl rfl HFIN.out.1 rfl HF.out
end Go.Proofs.Ytfcmkbeilpclmaa
