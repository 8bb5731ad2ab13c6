/-
  The contract of the statements' own papers.
-/
import Derived.Test.YtfcmkbeilpclmaaFndMem
import Derived.Test.YtfcmkbeilpclmaaFndArg
import Derived.Test.YtfcmkbeilpclmaaFndPapK
import Derived.Deep.AppendLies
import Derived.Laws.CopyOwn
import Derived.Laws.OwnMore
namespace Go.Proofs.Ytfcmkbeilpclmaa
open Go.RowKit Go.Lib
set_option linter.unusedVariables false

theorem pInfo : (Try.prog.info? 27).map (fun i => (i.zero, i.size, i.bytes)) = some (some (.agg #[.string ⟨#[]⟩, .int .i64 0, .slice none 0 0]), 3, 48) := by kernel_rfl
theorem pprs_snoc (L : List Ppr) (x : Ppr) : pprs L ++ x.cs = pprs (L ++ [x]) := by unfold pprs; rw [List.flatMap_append, List.flatMap_singleton]
theorem madePpr (w : World) (p : Ppr) {T : TypeId} : ∀ (j : Nat) (u : Value), p.cs[j]? = some u → (w.alloc (.cells p.cs.toArray T)).cell? ((⟨w.heap.size, 0, none⟩ : Addr).add j) = some u := by
  intro j u hu
  rw [add_flat', Nat.zero_add, (Has.made w T p.cs.toArray).cell j]
  rw [← hu]
  exact List.getElem?_toArray ..
theorem Ppr.cs_one (p : Ppr) : ∀ u ∈ p.cs, u.oneCell' = true := by
  intro u hu
  simp only [Ppr.cs, List.mem_cons, List.not_mem_nil, or_false] at hu
  rcases hu with rfl | rfl | rfl <;> rfl
/-- A paper whose fields lie in a block of fields that is none of the old. -/
structure Ppr.New (p : Ppr) (B : Nat) (w : World) : Prop where
  pin : p.In w
  up : p.L ≠ [] → B ≤ p.b
  ty : p.L ≠ [] → ∃ cur, w.heap[p.b]? = some (.cells cur 58 (0, 0))
theorem Ppr.New.below {p : Ppr} {B : Nat} {w w' : World} (h : p.New B w) (hb : Below w.heap.size w w') : p.New B w' :=
  ⟨h.pin.below hb, h.up, fun hl => by
    obtain ⟨cur, hc⟩ := h.ty hl
    exact ⟨cur, (hb.block _ (Array.getElem?_eq_some_iff.1 hc).1).trans hc⟩⟩
/-- Through a row of papers that grows. -/
theorem Ppr.New.grown {p : Ppr} {B Z n sz : Nat} {w w' : World} {v : Value} {xs : List Value} (h : p.New B w) (ho : w.ownsRow Z 27 sz v n xs) (hg : w.grownBy w' v.ownBlock) : p.New B w' := by
  have hne : p.L ≠ [] → v.ownBlock ≠ some p.b := fun hl e => by
    obtain ⟨cur, hc⟩ := h.ty hl
    rcases ho.2 with ⟨rfl, -⟩ | ⟨g1, cap, cur1, rfl, -, hg1, -⟩
    · cases e
    · have e1 : g1 = p.b := by
        have : some g1 = some p.b := e
        injection this
      rw [e1, hc] at hg1
      injection hg1 with hg1
      injection hg1 with _ hg1
      exact absurd hg1 (by decide)
  have hb : p.L ≠ [] → w'.heap[p.b]? = w.heap[p.b]? := fun hl => hg.block _ (by
    obtain ⟨cur, hc⟩ := h.ty hl
    exact (Array.getElem?_eq_some_iff.1 hc).1) (fun e => hne hl e.symm)
  exact ⟨⟨fun hl => by
    obtain ⟨off, hA, hlt, hc⟩ := h.pin.fs hl
    exact ⟨off, hA, Nat.lt_of_lt_of_le hlt hg.size, fun i hi => (hc i hi).keep (hb hl)⟩, h.pin.few, h.pin.ok⟩, h.up, fun hl => by
    obtain ⟨cur, hc⟩ := h.ty hl
    exact ⟨cur, (hb hl).trans hc⟩⟩
/-- What papers leaves: rows that are none of the old. -/
structure RowPn (w0 w : World) (A : Option Addr) (L : List Ppr) : Prop where
  row : ∀ s : List Nat, (∀ x ∈ s, x < w0.heap.size) → RowC w s A (pprs L)
  each : ∀ p ∈ L, p.New w0.heap.size w
theorem RowPn.rows {w0 w : World} {A : Option Addr} {L : List Ppr} (h : RowPn w0 w A L) : RowPp w A L := ⟨h.row [] (by simp), fun p hp => (h.each p hp).pin⟩
theorem RowPn.mv {w0 w w' : World} {A : Option Addr} {L : List Ppr} {s : List Nat} (h : RowPn w0 w A L) (hm : Mv w w' s) (hs : ∀ x ∈ s, x < w0.heap.size) : RowPn w0 w' A L :=
  ⟨fun t ht => ((h.row (s ++ t) (fun x hx => (List.mem_append.1 hx).elim (hs x) (ht x))).mv hm (fun x hx => List.mem_append_left _ hx)).sub (fun x hx => List.mem_append_right _ hx), fun p hp => by
    have hn := h.each p hp
    have hb : p.L ≠ [] → w'.heap[p.b]? = w.heap[p.b]? := fun hl => hm.block _ (by
      obtain ⟨cur, hc⟩ := hn.ty hl
      exact (Array.getElem?_eq_some_iff.1 hc).1) (fun hx => by have := hs _ hx; have := hn.up hl; omega)
    exact ⟨⟨fun hl => by
      obtain ⟨off, hA, hlt, hc⟩ := hn.pin.fs hl
      exact ⟨off, hA, Nat.lt_of_lt_of_le hlt hm.size, fun i hi => (hc i hi).keep (hb hl)⟩, hn.pin.few, hn.pin.ok⟩, hn.up, fun hl => by
      obtain ⟨cur, hc⟩ := hn.ty hl
      exact ⟨cur, (hb hl).trans hc⟩⟩⟩
theorem RowPl.get {w : World} {A : Option Addr} {L : List Ppr} (h : RowPl w A L) (k : Nat) (hk : k < L.length) : ∃ b off, A = some ⟨b, off, none⟩ ∧ b < w.heap.size ∧
    w.cell? ⟨b, off + k * 3, none⟩ = some (.string (S (L[k]).id)) ∧ w.cell? ⟨b, off + k * 3 + 1, none⟩ = some (.int .i64 (L[k]).cls) ∧ w.cell? ⟨b, off + k * 3 + 2, none⟩ = some (.slice (L[k]).A (L[k]).L.length (L[k]).cap) := by
  obtain ⟨b, off, hA, hb, -, hr⟩ := h.row (fun e => by
    have := pprs_len L
    rw [e, List.length_nil] at this
    omega)
  have hg := fun j (hj : j < 3) => flat_get Ppr.cs 3 Ppr.cs_len L k hk j hj
  refine ⟨b, off, hA, hb, ?_, ?_, ?_⟩
  · exact hr (k * 3) _ ((hg 0 (by omega)).trans rfl)
  · rw [Nat.add_assoc]; exact hr (k * 3 + 1) _ ((hg 1 (by omega)).trans rfl)
  · rw [Nat.add_assoc]; exact hr (k * 3 + 2) _ ((hg 2 (by omega)).trans rfl)
theorem RowPl.below {w w' : World} {A : Option Addr} {L : List Ppr} (h : RowPl w A L) (hb : Below w.heap.size w w') : RowPl w' A L := ⟨h.row.below hb, fun p hp => ⟨(h.each p hp).1.below hb (Nat.le_refl _), (h.each p hp).2⟩⟩

/-- The fields that papers keeps. -/
def Fnd.fewPs (L : List Ppr) : List (List Fld) := (L.take 30).map fun p => Pap.few p.L
def PapsPost (w : World) (L : List Ppr) (r : Ending) (w' : World) : Prop :=
  ∃ A M cap, r = .returned (.slice A M.length cap) ∧ M.map Ppr.L = Fnd.fewPs L ∧ RowPn w w' A M ∧ M.length ≤ cap ∧ cap ≤ 9223372036854775807 ∧ M.length ≤ 30 ∧ Below w.heap.size w w'
set_option maxHeartbeats 8000000 in
set_option maxRecDepth 100000 in
theorem fpapers_any {w : World} {A : Option Addr} {cap : Nat} {L : List Ppr} (hL : RowPl w A L) (hlc : L.length ≤ cap) (hcm : cap ≤ 9223372036854775807) :
    Calls Try.prog 15 #[.slice A L.length cap] w (PapsPost w L) := by
  obtain ⟨i0, hi0, hz0, hz1, hz2⟩ := info_parts pInfo
  have HI := Lib.hid (And.intro hi0 (And.intro hz0 (And.intro hz1 hz2)))
  clear hi0 hz0 hz1 hz2
  have HL := Lib.hid hL
  clear hL
  go_enter Try.func15, Try.ntmps15
  go_wp2_with fail
  go_loopg [3, 4] L.length (fun g1 v3 v4 wr => ∃ (k : Nat) (M : List Ppr), k ≤ L.length ∧ k ≤ 30 ∧ v4 = .int .i64 (k : Int) ∧ L.length - k ≤ g1 ∧ M.length = k ∧ Hid (M.map Ppr.L = (L.take k).map fun p => Pap.few p.L) ∧ wr.ownsRow w.heap.size 27 3 v3 k (pprs M) ∧ Hid (∀ p ∈ M, p.New w.heap.size wr) ∧ Below w.heap.size w wr)
  case atStart => exact ⟨0, [], Nat.zero_le _, by omega, rfl, by omega, rfl, rfl, World.ownsRow_nil _ _ _ _, (fun p hp => by cases hp), Below.refl _ _⟩
  case round =>
    obtain ⟨k, M, hk, hk30, rfl, hg, hMl, HM, hown, HNEW, hbk⟩ := hrel
    by_cases hlt : k < L.length ∧ k < 30
    · have hki : (k : Int) < (L.length : Int) := by omega
      have hki3 : (k : Int) < 30 := by omega
      have hki0 : (0 : Int) ≤ (k : Int) := by omega
      have hkc : (k : Int) < (cap : Int) := by omega
      have hLk := HL.out.below hbk
      obtain ⟨bp, op, rfl, hbp, p0, p1, p2⟩ := RowPl.get hLk k hlt.1
      have hE := hLk.each _ (List.getElem_mem hlt.1)
      have hstep : (L.take (k + 1)).map (fun p => Pap.few p.L) = (L.take k).map (fun p => Pap.few p.L) ++ [Pap.few (L[k]).L] := by rw [List.take_succ_eq_append_getElem hlt.1, List.map_append]; rfl
      generalize L[k] = P at p0 p1 p2 hE hstep
      obtain ⟨id, cls, PA, PL, pcap, pb⟩ := P
      dsimp only at p0 p1 p2 hE hstep
      have HFEW := Lib.hid (few_any id cls PL pb pcap PA wr hE.1 (by omega) (by omega) (fun x hx => ⟨by have := (hE.2.1 x hx).2.1; omega, by have := (hE.2.1 x hx).2.2; omega⟩))
      have HPOK := Lib.hid (Pap.few_ok PL (fun x hx => (hE.2.1 x hx).1))
      have HPL := Lib.hid (Pap.few_len PL)
      have HST := Lib.hid hstep
      have HOWN := Lib.hid hown
      have HBK := Lib.hid hbk
      clear hE hstep hown hbk hLk
      unfold FewPost at HFEW
      go_wp2_with fail
      refine HFEW.out.mono ?_
      rintro r W1 ⟨NA, nb, ncap, rfl, hnb, hnF, hnT, hb1⟩
      clear p0 p1 p2 HFEW
      generalize Pap.few PL = NL at HPOK HPL HST hnF hnT
      generalize id.take 300 = nid
      have hNew : Ppr.New ⟨nid, cls, NA, NL, ncap, nb⟩ w.heap.size W1 := ⟨⟨hnF, (show NL.length ≤ 1000000 from by have := HPL.out; omega), HPOK.out⟩, fun _ => Nat.le_trans HBK.out.size hnb, hnT⟩
      have hup := up1 (w := W1) (.cells #[.string (S nid), .int .i64 cls, .slice NA NL.length ncap] 27)
      have HB := Lib.hid (And.intro ((own_mv HOWN.out (Mv.of_below hb1 []) (by simp)).alloc (.cells #[.string (S nid), .int .i64 cls, .slice NA NL.length ncap] 27)) (And.intro ((HBK.out.trans (hb1.mono HBK.out.size)).trans (hup.mono (by have := HBK.out.size; have := hb1.size; omega))) (And.intro (show ∀ p ∈ M ++ [⟨nid, cls, NA, NL, ncap, nb⟩], p.New w.heap.size (W1.alloc (.cells #[.string (S nid), .int .i64 cls, .slice NA NL.length ncap] 27)) from fun p hp => by
        rcases List.mem_append.1 hp with hp | hp
        · exact ((HNEW.out p hp).below hb1).below hup
        · rw [List.mem_singleton.1 hp]
          exact hNew.below hup) (madePpr W1 ⟨nid, cls, NA, NL, ncap, nb⟩ (T := 27)))))
      have hgs : w.heap.size ≤ (W1.alloc (.cells #[.string (S nid), .int .i64 cls, .slice NA NL.length ncap] 27)).heap.size := by rw [asize]; have := HBK.out.size; have := hb1.size; omega
      have HM2 : Hid ((M ++ [(⟨nid, cls, NA, NL, ncap, nb⟩ : Ppr)]).map Ppr.L = (L.take (k + 1)).map fun p => Pap.few p.L) := by
        show _ = _
        rw [List.map_append, HM.out, HST.out]; rfl
      clear hNew hup hb1 hnF hnT hnb HOWN HBK HNEW HM HST
      go_wp2_with (at_builtin; refine wpList_append_own _ rfl (.tmp 15) (.tmp 21) 40 rfl w.heap.size 27 i0 (.agg #[.string ⟨#[]⟩, .int .i64 0, .slice none 0 0]) 3 48 Try.underlying40 HI.out.1 HI.out.2.1 HI.out.2.2.1 HI.out.2.2.2 rfl (by decide) u3 k (pprs M) rfl HB.out.1 ⟨W1.heap.size, 0, none⟩ 1 1 (Ppr.cs ⟨nid, cls, NA, NL, ncap, nb⟩) rfl rfl HB.out.2.2.2 (Ppr.cs_one _) (by simp only [maxLen]; omega) (by omega) hgs ?_; intro v9 w9 hown9 hg9 hnil9)
      rw [pprs_snoc] at hown9
      have hD9 := HB.out.2.1.grown hg9 hgs (fun q hq => (HB.out.1.lt q hq).1)
      have HN9 := Lib.hid (fun p hp => (HB.out.2.2.1 p hp).grown HB.out.1 hg9)
      go_wp2_with fail
      go_roundg (L.length - (k + 1))
      case measure => omega
      case rel => exact ⟨k + 1, M ++ [⟨nid, cls, NA, NL, ncap, nb⟩], by omega, by omega, by go_num, Nat.le_refl _, by simp [hMl], HM2, hown9, HN9, hD9⟩
    · have hkl : (L.take k).map (fun p => Pap.few p.L) = Fnd.fewPs L := by
        unfold Fnd.fewPs
        rcases Nat.lt_or_ge k L.length with h | h
        · have : k = 30 := by omega
          rw [this]
        · rw [List.take_of_length_le (by omega), List.take_of_length_le (by omega)]
      have HR : Hid (∀ s : List Nat, (∀ x ∈ s, x < w.heap.size) → ∃ A cap, u3 = .slice A k cap ∧ k ≤ cap ∧ cap ≤ maxLen ∧ RowC wr s A (pprs M)) := fun s hs => by
        obtain ⟨A, cap, e, h1, h2, -, -, h3⟩ := own_rowC hown hs (by decide)
        exact ⟨A, cap, e, h1, h2, h3⟩
      obtain ⟨A3, cap3, rfl, hlc3, hcm3, hr3⟩ := HR.out [] (by simp)
      have hfin : PapsPost w L (.returned (.slice A3 k cap3)) wr := ⟨A3, M, cap3, by rw [hMl], by rw [HM.out, hkl], ⟨fun s hs => by
        obtain ⟨A4, cap4, e, h1, h2, h3⟩ := HR.out s hs
        injection e with e
        rw [e]
        exact h3, HNEW.out⟩, by omega, hcm3, by omega, hbk⟩
      have HFIN := Lib.hid hfin
      clear hfin hr3 HR hown HNEW HM hkl hbk
      have hstop : (k : Int) < (L.length : Int) → ¬ (k : Int) < 30 := by intro h; omega
      by_cases hkL : (k : Int) < (L.length : Int)
      · have hk3 := hstop hkL
        clear hstop
        go_wp2_with fail
        go_ret
        exact HFIN.out
      · clear hstop
        go_wp2_with fail
        go_ret
        exact HFIN.out
end Go.Proofs.Ytfcmkbeilpclmaa
