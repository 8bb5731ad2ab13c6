/-
  QHI: the texts StaQH, StaQI in one.
-/
import Derived.Test.YtojemaaljjibiaaPQEG
open List (setIfInBounds_toArray set_cons_zero set_cons_succ)
namespace Go.Proofs.Ytojemaaljjibiaa
open Go.RowKit
set_option linter.unusedVariables false

section
variable {w : World} {q : Nat} {s ot : List Nat} {st : Sta} {n : Nat}
set_option maxRecDepth 100000 in
theorem ckClock_any (h : StAt w q s ot st n) (t : Int) :
    Calls Try.prog 38 #[.pointer (some ⟨q, 0, none⟩), .int .i64 t] w fun r w' => r = .returned (.int .i64 (if t < st.now then 24 else 0)) ∧ w' = w := by
  obtain ⟨⟨M, hM, hr⟩, -⟩ := h
  obtain ⟨A, ca, mb, B, cb, h1, -⟩ := hr.ex
  have y3 := h1.cell 3
  clear hr hM h1
  by_cases hc : t < st.now
  · rw [if_pos hc]
    go_enter Try.func38, Try.ntmps38
    go_wp2_with fail
    go_ret
    exact ⟨rfl, rfl⟩
  · rw [if_neg hc]
    go_enter Try.func38, Try.ntmps38
    go_wp2_with fail
    go_ret
    exact ⟨rfl, rfl⟩
set_option maxRecDepth 100000 in
set_option maxHeartbeats 4000000 in
theorem ckPoint_any (h : StAt w q s ot st n) (hI : Sta.Inv st) (hQ : st.Q.length ≤ 1000) (size : Int) (root : List UInt8) :
    Calls Try.prog 37 #[.pointer (some ⟨q, 0, none⟩), .agg #[.int .i64 size, .string (S root)]] w fun r w' => r = .returned (.int .i64 (if (st.P.length : Int) < size ∨ Sta.lessQ st.Q size = true then 21 else 0)) ∧ Below w.heap.size w w' := by
  obtain ⟨⟨M, hM, hr⟩, -⟩ := h
  obtain ⟨A, ca, mb, B, cb, h1, -, hcb, -, hQX, -⟩ := hr.reads
  have hl : st.P.length = M.length := by rw [← hM, List.length_map]
  rw [hl]
  have hba := stBox w (.cells #[.int .i64 size, .string (S root)] 35)
  have HB := Lib.hid hba
  have h1' := h1.below hba h1.lt
  have hbx := Has.made w 35 #[.int .i64 size, .string (S root)]
  have y0 := h1'.cell 0
  have y2 := h1'.cell 2
  have x0 := hbx.cell 0
  have HQX := Lib.hid (fun k hk => by
    obtain ⟨b, e1, e2, -, e3, -⟩ := hQX k hk
    exact (⟨b, e1, (hba.cell (p := ⟨b, k * 2, none⟩) e2).trans e3⟩ : ∃ b, B = some ⟨b, 0, none⟩ ∧ (w.alloc (.cells #[.int .i64 size, .string (S root)] 35)).cell? ⟨b, k * 2, none⟩ = some (.int .i64 (st.Q[k]).size)))
  have hcc : (st.Q.length : Int) ≤ (cb : Int) := by omega
  clear hr hM hl h1 h1' hbx hI hQX hcb
  by_cases hs : (M.length : Int) < size
  · rw [if_pos (Or.inl hs)]
    have hwr : IntKind.i64.wrap ((st.Q.length : Int) - 1) = (st.Q.length : Int) - 1 := by rw [IntKind.wrap_i64]; omega
    go_enter Try.func37, Try.ntmps37
    go_upto_region 1 with fail
    generalize w.alloc (.cells #[.int .i64 size, .string (S root)] 35) = W0 at *
    generalize w.heap.size = b0 at x0 ⊢
    go_upto_region 2 with fail
    go_quiet (fail)
    go_wp2_with fail
    go_ret
    exact ⟨rfl, evDrew HB.out _⟩
  by_cases hz : st.Q.length = 0
  · have hwr : IntKind.i64.wrap ((st.Q.length : Int) - 1) = -1 := by rw [hz]; rfl
    have hq0 : st.Q = [] := List.eq_nil_of_length_eq_zero hz
    have hno : ¬ ((M.length : Int) < size ∨ Sta.lessQ st.Q size = true) := by
      rw [hq0]
      rintro (h | h)
      · exact hs h
      · cases h
    rw [if_neg hno]
    clear hno hq0 hz
    go_enter Try.func37, Try.ntmps37
    go_upto_region 1 with fail
    generalize w.alloc (.cells #[.int .i64 size, .string (S root)] 35) = W0 at *
    generalize w.heap.size = b0 at x0 ⊢
    go_upto_region 2 with fail
    go_quiet (fail)
    go_wp2_with fail
    go_ret
    exact ⟨rfl, evDrew HB.out _⟩
  obtain ⟨K, hK⟩ : ∃ K, st.Q.length = K + 1 := ⟨st.Q.length - 1, by omega⟩
  have hKl : K < st.Q.length := by omega
  obtain ⟨b, rfl, x2⟩ := HQX.out K hKl
  have hwr : IntKind.i64.wrap ((st.Q.length : Int) - 1) = (K : Int) := by rw [IntKind.wrap_i64]; omega
  have hlast : Sta.lessQ st.Q size = decide (size < (st.Q[K]'hKl).size) := by
    unfold Sta.lessQ
    rw [List.getLast?_eq_getElem?, show st.Q.length - 1 = K by omega, List.getElem?_eq_getElem hKl]
  have hK0 : (0 : Int) ≤ (K : Int) := by omega
  have hK1 : (K : Int) < (st.Q.length : Int) := by omega
  have hK2 : (K : Int) < (cb : Int) := by omega
  rw [hlast]
  generalize (st.Q[K]'hKl).size = ls at x2 ⊢
  clear HQX hlast hK hKl hz
  by_cases hc : size < ls
  · rw [if_pos (Or.inr (decide_eq_true hc))]
    go_enter Try.func37, Try.ntmps37
    go_upto_region 1 with fail
    generalize w.alloc (.cells #[.int .i64 size, .string (S root)] 35) = W0 at *
    generalize w.heap.size = b0 at x0 ⊢
    go_upto_region 2 with fail
    go_quiet (fail)
    go_wp2_with fail
    go_ret
    exact ⟨rfl, evDrew HB.out _⟩
  · rw [if_neg (by rintro (h | h); exact hs h; exact hc (of_decide_eq_true h))]
    go_enter Try.func37, Try.ntmps37
    go_upto_region 1 with fail
    generalize w.alloc (.cells #[.int .i64 size, .string (S root)] 35) = W0 at *
    generalize w.heap.size = b0 at x0 ⊢
    go_upto_region 2 with fail
    go_quiet (fail)
    go_wp2_with fail
    go_ret
    exact ⟨rfl, evDrew HB.out _⟩
end
end Go.Proofs.Ytojemaaljjibiaa

namespace Go.Proofs.Ytojemaaljjibiaa
open Go.RowKit
set_option linter.unusedVariables false

section
variable {w : World} {q : Nat} {s ot : List Nat} {st : Sta} {n : Nat}
theorem Sta.hasId_idI (P : List Ent) (id : List UInt8) : Sta.hasId P id = (idI (P.map Ent.id) id).isSome := by
  rw [Bool.eq_iff_iff, Sta.hasId_iff]
  cases h : idI (P.map Ent.id) id with
  | none =>
    rw [idI_none] at h
    simp only [Option.isSome_none, Bool.false_eq_true, iff_false]
    rintro ⟨e, he, rfl⟩
    exact h (List.mem_map_of_mem he)
  | some i =>
    simp only [Option.isSome_some, iff_true]
    by_cases hm : id ∈ P.map Ent.id
    · obtain ⟨e, he, e2⟩ := List.mem_map.1 hm
      exact ⟨e, he, e2⟩
    · rw [idI_none.2 hm] at h; cases h
/-- A paper in a box, the state's own cells. -/
abbrev CkP (q b0 : Nat) (A : Option Addr) (ln ca mb : Nat) (now : Int) (id : List UInt8) (cls born slot : Int) (xA : Option Addr) (xl xca : Nat) (gone : Bool) (xB : Option Addr) (xh xcb : Nat) (o : Option Nat) (W : World) : Prop :=
  W.cell? ⟨q, 0, none⟩ = some (.slice A ln ca) ∧ W.cell? ⟨q, 1, none⟩ = some (.map (some mb)) ∧ W.cell? ⟨q, 3, none⟩ = some (.int .i64 now) ∧
  W.cell? ⟨b0, 0, none⟩ = some (.string (S id)) ∧ W.cell? ⟨b0, 1, none⟩ = some (.int .i64 cls) ∧ W.cell? ⟨b0, 2, none⟩ = some (.int .i64 born) ∧ W.cell? ⟨b0, 3, none⟩ = some (.int .i64 slot) ∧ W.cell? ⟨b0, 4, none⟩ = some (.slice xA xl xca) ∧ W.cell? ⟨b0, 5, none⟩ = some (.bool gone) ∧ W.cell? ⟨b0, 6, none⟩ = some (.slice xB xh xcb) ∧
  (Instr.lookup 56 (.map (some mb)) (.string (S id)) true).run Try.prog W = .ok (.tuple #[.int .i64 ((o.getD 0 : Nat) : Int), .bool o.isSome]) W
/-- A paper in a box, that is not gone. -/
abbrev Ck8 (b0 : Nat) (slot : Int) (W : World) : Prop := W.cell? ⟨b0, 5, none⟩ = some (.bool false) ∧ W.cell? ⟨b0, 3, none⟩ = some (.int .i64 slot)
set_option maxRecDepth 100000 in
set_option maxHeartbeats 8000000 in
theorem ckPaper_any (h : StAt w q s ot st n) (hI : Sta.Inv st) (e : Ent) (hid : e.id.length ≤ 1000000) (xA : Option Addr) (xca : Nat) (xB : Option Addr) (xcb : Nat) :
    Calls Try.prog 36 #[.pointer (some ⟨q, 0, none⟩), .agg #[.string (S e.id), .int .i64 e.cls, .int .i64 e.born, .int .i64 e.slot, .slice xA e.L.length xca, .bool e.gone, .slice xB e.H.length xcb]] w fun r w' => r = .returned (.int .i64 (Sta.paperC st e)) ∧ Below w.heap.size w w' := by
  have hPC : Sta.paperC st e = if (idI (st.P.map Ent.id) e.id).isSome = true then 10 else if 64 ≤ st.P.length then 6 else if st.now < e.born then 24 else if e.gone = false ∧ Sta.taken st.P e.slot = true then 25 else 0 := by
    unfold Sta.paperC
    rw [Sta.hasId_idI]
  rw [hPC]
  have HUS := Lib.hid (fun (W : World) (hb : Below w.heap.size w W) => stUsed (h.below hb) hI)
  have hTK : ∀ U : List Int, U.Perm ((st.P.filter fun e => !e.gone).map Ent.slot) → decide (e.slot ∈ U) = Sta.taken st.P e.slot := fun U hU => by
    rw [Bool.eq_iff_iff, decide_eq_true_iff, Sta.taken_iff, hU.mem_iff, List.mem_map]
    constructor
    · rintro ⟨x, hx, e1⟩
      obtain ⟨h1, h2⟩ := List.mem_filter.1 hx
      exact ⟨x, h1, by simpa using h2, e1⟩
    · rintro ⟨x, h1, h2, e1⟩
      exact ⟨x, List.mem_filter.2 ⟨h1, by simp [h2]⟩, e1⟩
  have HTK := Lib.hid hTK
  have HFEW := Lib.hid hI.few
  have hlt := h.lt
  obtain ⟨⟨M, hM, hr⟩, -⟩ := h
  obtain ⟨A, ca, mb, B, cb, h1, -, -, -, -, hsq⟩ := hr.reads
  have hl : st.P.length = M.length := by rw [← hM, List.length_map]
  rw [ids_of hM] at hsq
  rw [hl]
  obtain ⟨id, cls, born, slot, L, gone, H⟩ := e
  dsimp only at *
  have hba := stBox w (.cells #[.string (S id), .int .i64 cls, .int .i64 born, .int .i64 slot, .slice xA L.length xca, .bool gone, .slice xB H.length xcb] 33)
  have h1' := h1.below hba h1.lt
  have hbx := Has.made w 33 #[.string (S id), .int .i64 cls, .int .i64 born, .int .i64 slot, .slice xA L.length xca, .bool gone, .slice xB H.length xcb]
  have hlk := fun (W : World) (hb : Below w.heap.size w W) => (hsq.keep (hb.block mb hsq.lt)).look id (by simp only [maxLen]; omega)
  generalize idI (st.P.map Ent.id) id = o at hlk ⊢
  have hbase : CkP q w.heap.size A M.length ca mb st.now id cls born slot xA L.length xca gone xB H.length xcb o (w.alloc (.cells #[.string (S id), .int .i64 cls, .int .i64 born, .int .i64 slot, .slice xA L.length xca, .bool gone, .slice xB H.length xcb] 33)) :=
    ⟨h1'.cell 0, h1'.cell 1, h1'.cell 3, hbx.cell 0, hbx.cell 1, hbx.cell 2, hbx.cell 3, hbx.cell 4, hbx.cell 5, hbx.cell 6, hlk _ hba⟩
  have hblt : w.heap.size < (w.alloc (.cells #[.string (S id), .int .i64 cls, .int .i64 born, .int .i64 slot, .slice xA L.length xca, .bool gone, .slice xB H.length xcb] 33)).heap.size := by rw [asize]; omega
  have HLK := Lib.hid hlk
  clear hr hM hl h1 h1' hbx hsq hPC hTK hlk hI hid
  obtain ⟨res, hres⟩ : ∃ res : Int, (if o.isSome = true then 10 else if 64 ≤ M.length then 6 else if st.now < born then 24 else if gone = false ∧ Sta.taken st.P slot = true then 25 else 0) = res := ⟨_, rfl⟩
  rw [hres]
  have HRES := Lib.hid hres
  clear hres
  go_enter Try.func36, Try.ntmps36
  go_upto_region 1 with fail
  generalize w.alloc (.cells #[.string (S id), .int .i64 cls, .int .i64 born, .int .i64 slot, .slice xA L.length xca, .bool gone, .slice xB H.length xcb] 33) = W0 at *
  obtain ⟨b0, hq0⟩ : ∃ b0, w.heap.size = b0 := ⟨_, rfl⟩
  rw [hq0] at hbase hblt ⊢
  have HB := Lib.hid hba
  have HLT := Lib.hid (And.intro hq0 (And.intro hlt.1 hblt))
  clear hq0 hlt hblt
  have hS : CkP q b0 A M.length ca mb st.now id cls born slot xA L.length xca gone xB H.length xcb o W0.drew := ⟨hbase.1, hbase.2.1, hbase.2.2.1, hbase.2.2.2.1, hbase.2.2.2.2.1, hbase.2.2.2.2.2.1, hbase.2.2.2.2.2.2.1, hbase.2.2.2.2.2.2.2.1, hbase.2.2.2.2.2.2.2.2.1, hbase.2.2.2.2.2.2.2.2.2.1, HLK.out _ hba.drew⟩
  refine wp_region_held_drew (S := CkP q b0 A M.length ca mb st.now id cls born slot xA L.length xca gone xB H.length xcb o) (by kernel_rfl) hS (fun hHeld => ?_)
  have HB1 := Lib.hid hba.drew
  have HLT1 : Hid (b0 < W0.drew.heap.size) := Lib.hid HLT.out.2.2
  generalize W0.drew = wd at hS hHeld HB1 HLT1 ⊢
  clear hba hbase HB
  first
  | (refine tkW (i := 0) (v := ?_) rfl rfl ?_ ?_; rotate_left; (focus (intro w hSw; (try dsimp only at hSw); go_simp; first | done | with_reducible rfl)); (simp only [Act.at, setIfInBounds_toArray, set_cons_zero, set_cons_succ]))
  | (refine tkU (i := 0) rfl rfl ?_; (simp only [Act.at, setIfInBounds_toArray, set_cons_zero, set_cons_succ]))
  first
  | (refine tkW (i := 1) (v := ?_) rfl rfl ?_ ?_; rotate_left; (focus (intro w hSw; (try dsimp only at hSw); go_simp; first | done | with_reducible rfl)); (simp only [Act.at, setIfInBounds_toArray, set_cons_zero, set_cons_succ]))
  | (refine tkU (i := 1) rfl rfl ?_; (simp only [Act.at, setIfInBounds_toArray, set_cons_zero, set_cons_succ]))
  first
  | (refine tkW (i := 2) (v := ?_) rfl rfl ?_ ?_; rotate_left; (focus (intro w hSw; (try dsimp only at hSw); go_simp; first | done | with_reducible rfl)); (simp only [Act.at, setIfInBounds_toArray, set_cons_zero, set_cons_succ]))
  | (refine tkU (i := 2) rfl rfl ?_; (simp only [Act.at, setIfInBounds_toArray, set_cons_zero, set_cons_succ]))
  first
  | (refine tkW (i := 3) (v := ?_) rfl rfl ?_ ?_; rotate_left; (focus (intro w hSw; (try dsimp only at hSw); go_simp; first | done | with_reducible rfl)); (simp only [Act.at, setIfInBounds_toArray, set_cons_zero, set_cons_succ]))
  | (refine tkU (i := 3) rfl rfl ?_; (simp only [Act.at, setIfInBounds_toArray, set_cons_zero, set_cons_succ]))
  first
  | (refine tkW (i := 4) (v := ?_) rfl rfl ?_ ?_; rotate_left; (focus (intro w hSw; (try dsimp only at hSw); go_simp; first | done | with_reducible rfl)); (simp only [Act.at, setIfInBounds_toArray, set_cons_zero, set_cons_succ]))
  | (refine tkU (i := 4) rfl rfl ?_; (simp only [Act.at, setIfInBounds_toArray, set_cons_zero, set_cons_succ]))
  first
  | (refine tkW (i := 5) (v := ?_) rfl rfl ?_ ?_; rotate_left; (focus (intro w hSw; (try dsimp only at hSw); go_simp; first | done | with_reducible rfl)); (simp only [Act.at, setIfInBounds_toArray, set_cons_zero, set_cons_succ]))
  | (refine tkU (i := 5) rfl rfl ?_; (simp only [Act.at, setIfInBounds_toArray, set_cons_zero, set_cons_succ]))
  first
  | (refine tkW (i := 6) (v := ?_) rfl rfl ?_ ?_; rotate_left; (focus (intro w hSw; (try dsimp only at hSw); go_simp; first | done | with_reducible rfl)); (simp only [Act.at, setIfInBounds_toArray, set_cons_zero, set_cons_succ]))
  | (refine tkU (i := 6) rfl rfl ?_; (simp only [Act.at, setIfInBounds_toArray, set_cons_zero, set_cons_succ]))
  first
  | (refine tkW (i := 7) (v := ?_) rfl rfl ?_ ?_; rotate_left; (focus (intro w hSw; (try dsimp only at hSw); go_simp; first | done | with_reducible rfl)); (simp only [Act.at, setIfInBounds_toArray, set_cons_zero, set_cons_succ]))
  | (refine tkU (i := 7) rfl rfl ?_; (simp only [Act.at, setIfInBounds_toArray, set_cons_zero, set_cons_succ]))
  first
  | (refine tkW (i := 8) (v := ?_) rfl rfl ?_ ?_; rotate_left; (focus (intro w hSw; (try dsimp only at hSw); go_simp; first | done | with_reducible rfl)); (simp only [Act.at, setIfInBounds_toArray, set_cons_zero, set_cons_succ]))
  | (refine tkU (i := 8) rfl rfl ?_; (simp only [Act.at, setIfInBounds_toArray, set_cons_zero, set_cons_succ]))
  first
  | (refine tkW (i := 9) (v := ?_) rfl rfl ?_ ?_; rotate_left; (focus (intro w hSw; (try dsimp only at hSw); go_simp; first | done | with_reducible rfl)); (simp only [Act.at, setIfInBounds_toArray, set_cons_zero, set_cons_succ]))
  | (refine tkU (i := 9) rfl rfl ?_; (simp only [Act.at, setIfInBounds_toArray, set_cons_zero, set_cons_succ]))
  first
  | (refine tkW (i := 10) (v := ?_) rfl rfl ?_ ?_; rotate_left; (focus (intro w hSw; (try dsimp only at hSw); go_simp; first | done | with_reducible rfl)); (simp only [Act.at, setIfInBounds_toArray, set_cons_zero, set_cons_succ]))
  | (refine tkU (i := 10) rfl rfl ?_; (simp only [Act.at, setIfInBounds_toArray, set_cons_zero, set_cons_succ]))
  first
  | (refine tkW (i := 11) (v := ?_) rfl rfl ?_ ?_; rotate_left; (focus (intro w hSw; (try dsimp only at hSw); go_simp; first | done | with_reducible rfl)); (simp only [Act.at, setIfInBounds_toArray, set_cons_zero, set_cons_succ]))
  | (refine tkU (i := 11) rfl rfl ?_; (simp only [Act.at, setIfInBounds_toArray, set_cons_zero, set_cons_succ]))
  refine wpAnyH_done (by kernel_rfl) ?_ _
  obtain ⟨y0, y1, y3, e0, e1, e2, e3, e4, e5, e6, -⟩ := hS
  cases o with
  | some k =>
    obtain rfl : (10 : Int) = res := HRES.out
    simp only [Option.isSome_some, Option.getD_some]
    clear HUS HTK HLK hHeld HRES
    go_wp2_with fail
    go_ret
    exact ⟨rfl, HB1.out⟩
  | none =>
    have hr1 := HRES.out
    rw [if_neg (show ¬ ((none : Option Nat).isSome = true) from by decide)] at hr1
    simp only [Option.isSome_none, Option.getD_none]
    clear HLK hHeld HRES
    by_cases h64 : 64 ≤ M.length
    · rw [if_pos h64] at hr1
      subst hr1
      have h64' : (64 : Int) ≤ (M.length : Int) := by omega
      clear HUS HTK h64
      go_wp2_with fail
      go_ret
      exact ⟨rfl, HB1.out⟩
    rw [if_neg h64] at hr1
    have h64' : ¬ (64 : Int) ≤ (M.length : Int) := by omega
    clear h64
    by_cases hb : st.now < born
    · rw [if_pos hb] at hr1
      subst hr1
      clear HUS HTK
      go_upto_region 6 with fail
      go_quiet (fail)
      go_wp2_with fail
      go_ret
      exact ⟨rfl, evDrew HB1.out _⟩
    rw [if_neg hb] at hr1
    have HR := Lib.hid hr1
    clear hr1
    go_upto_region 6 with fail
    go_quiet (fail)
    go_upto_region 8 with fail
    cases gone with
    | true =>
      have hr1 := HR.out
      rw [if_neg (by simp)] at hr1
      subst hr1
      clear HUS HTK HR
      go_quiet (fail)
      go_wp2_with fail
      go_ret
      exact ⟨rfl, evDrew HB1.out _⟩
    | false =>
      have HBD : Hid (Below w.heap.size w (wd.drewN nq).drew) := Lib.hid (evDrew HB1.out nq).drew
      have hS : Ck8 b0 slot (wd.drewN nq).drew := ⟨e5, e3⟩
      refine wp_region_held_drew (S := Ck8 b0 slot) (by kernel_rfl) hS (fun hHeld => ?_)
      have HLT2 : Hid (b0 < ((wd.drewN nq).drew).heap.size) := Lib.hid HLT1.out
      generalize (wd.drewN nq).drew = wt at hS hHeld HBD HLT2 ⊢
      clear y0 y1 y3 e0 e1 e2 e3 e4 e5 e6
      first
      | (refine tkW (i := 0) (v := ?_) rfl rfl ?_ ?_; rotate_left; (focus (intro w hSw; (try dsimp only at hSw); go_simp; first | done | with_reducible rfl)); (simp only [Act.at, setIfInBounds_toArray, set_cons_zero, set_cons_succ]))
      | (refine tkU (i := 0) rfl rfl ?_; (simp only [Act.at, setIfInBounds_toArray, set_cons_zero, set_cons_succ]))
      first
      | (refine tkW (i := 1) (v := ?_) rfl rfl ?_ ?_; rotate_left; (focus (intro w hSw; (try dsimp only at hSw); go_simp; first | done | with_reducible rfl)); (simp only [Act.at, setIfInBounds_toArray, set_cons_zero, set_cons_succ]))
      | (refine tkU (i := 1) rfl rfl ?_; (simp only [Act.at, setIfInBounds_toArray, set_cons_zero, set_cons_succ]))
      first
      | (refine tkW (i := 2) (v := ?_) rfl rfl ?_ ?_; rotate_left; (focus (intro w hSw; (try dsimp only at hSw); go_simp; first | done | with_reducible rfl)); (simp only [Act.at, setIfInBounds_toArray, set_cons_zero, set_cons_succ]))
      | (refine tkU (i := 2) rfl rfl ?_; (simp only [Act.at, setIfInBounds_toArray, set_cons_zero, set_cons_succ]))
      first
      | (refine tkW (i := 3) (v := ?_) rfl rfl ?_ ?_; rotate_left; (focus (intro w hSw; (try dsimp only at hSw); go_simp; first | done | with_reducible rfl)); (simp only [Act.at, setIfInBounds_toArray, set_cons_zero, set_cons_succ]))
      | (refine tkU (i := 3) rfl rfl ?_; (simp only [Act.at, setIfInBounds_toArray, set_cons_zero, set_cons_succ]))
      first
      | (refine tkW (i := 4) (v := ?_) rfl rfl ?_ ?_; rotate_left; (focus (intro w hSw; (try dsimp only at hSw); go_simp; first | done | with_reducible rfl)); (simp only [Act.at, setIfInBounds_toArray, set_cons_zero, set_cons_succ]))
      | (refine tkU (i := 4) rfl rfl ?_; (simp only [Act.at, setIfInBounds_toArray, set_cons_zero, set_cons_succ]))
      first
      | (refine tkW (i := 6) (v := ?_) rfl rfl ?_ ?_; rotate_left; (focus (intro w hSw; (try dsimp only at hSw); go_simp; first | done | with_reducible rfl)); (simp only [Act.at, setIfInBounds_toArray, set_cons_zero, set_cons_succ]))
      | (refine tkU (i := 6) rfl rfl ?_; (simp only [Act.at, setIfInBounds_toArray, set_cons_zero, set_cons_succ]))
      first
      | (refine tkW (i := 7) (v := ?_) rfl rfl ?_ ?_; rotate_left; (focus (intro w hSw; (try dsimp only at hSw); go_simp; first | done | with_reducible rfl)); (simp only [Act.at, setIfInBounds_toArray, set_cons_zero, set_cons_succ]))
      | (refine tkU (i := 7) rfl rfl ?_; (simp only [Act.at, setIfInBounds_toArray, set_cons_zero, set_cons_succ]))
      refine take_call (i := 5) (by kernel_rfl) rfl rfl (by rfl) (fun K hK => ?_)
      go_simp
      refine (HUS.out wt HBD.out).mono ?_
      rintro r w2 ⟨UA, uca, U, rfl, -, hU, hul, hum, hur, hb2⟩
      have HCO := Lib.hid (containsN_any (RowC.sub hur (t := []) (by simp)) hul (by
        have h1 := hU.length_eq
        rw [List.length_map] at h1
        have h2 := List.length_filter_le (fun e : Ent => !e.gone) st.P
        have h3 := HFEW.out
        omega) slot)
      have hS2 : Ck8 b0 slot w2 := ⟨(hb2.cell (p := ⟨b0, 5, none⟩) HLT2.out).trans hS.1, (hb2.cell (p := ⟨b0, 3, none⟩) HLT2.out).trans hS.2⟩
      have HB2 := Lib.hid (HBD.out.trans (hb2.mono HBD.out.size))
      have htk := HTK.out U hU
      rw [htk] at HCO
      have HRT := Lib.hid (HR.out)
      clear hU hul hum hur hb2 hS hHeld HBD HUS HTK htk HR
      refine hK.out _ _ hS2 (fun hHeld => ?_)
      clear hK K
      try simp only [Act.put, setIfInBounds_toArray, set_cons_zero, set_cons_succ]
      refine take_call (i := 8) (by kernel_rfl) rfl rfl (by rfl) (fun K hK => ?_)
      go_simp
      refine HCO.out.mono ?_
      rintro r w3 ⟨rfl, hw3⟩
      subst w3
      refine hK.out _ _ hS2 (fun hHeld => ?_)
      clear hK K
      try simp only [Act.put, setIfInBounds_toArray, set_cons_zero, set_cons_succ]
      first
      | (refine tkW (i := 9) (v := ?_) rfl rfl ?_ ?_; rotate_left; (focus (intro w hSw; (try dsimp only at hSw); go_simp; first | done | with_reducible rfl)); (simp only [Act.at, setIfInBounds_toArray, set_cons_zero, set_cons_succ]))
      | (refine tkU (i := 9) rfl rfl ?_; (simp only [Act.at, setIfInBounds_toArray, set_cons_zero, set_cons_succ]))
      first
      | (refine tkW (i := 10) (v := ?_) rfl rfl ?_ ?_; rotate_left; (focus (intro w hSw; (try dsimp only at hSw); go_simp; first | done | with_reducible rfl)); (simp only [Act.at, setIfInBounds_toArray, set_cons_zero, set_cons_succ]))
      | (refine tkU (i := 10) rfl rfl ?_; (simp only [Act.at, setIfInBounds_toArray, set_cons_zero, set_cons_succ]))
      refine wpAnyH_done (by kernel_rfl) ?_ _
      cases htk2 : Sta.taken st.P slot with
      | true =>
        have hr1 := HRT.out
        rw [htk2, if_pos ⟨rfl, rfl⟩] at hr1
        subst hr1
        clear HRT HCO htk2
        go_wp2_with fail
        go_ret
        exact ⟨rfl, HB2.out⟩
      | false =>
        have hr1 := HRT.out
        rw [htk2, if_neg (by simp)] at hr1
        subst hr1
        clear HRT HCO htk2
        go_wp2_with fail
        go_ret
        exact ⟨rfl, HB2.out⟩
end
end Go.Proofs.Ytojemaaljjibiaa
