/-
  The reference's Check of the sixteenth layer.
-/
import Derived.Test.YtojemaaljjibiaaPStaRA
import Derived.Test.YtojemaaljjibiaaPRBD
open List (setIfInBounds_toArray set_cons_zero set_cons_succ)
namespace Go.Proofs.Ytojemaaljjibiaa
open Go.RowKit
set_option linter.unusedVariables false

/-- An event's own variable. -/
abbrev EvBox (b : Nat) (v : Evt) (A : Option Addr) (ca : Nat) (B : Option Addr) (cb : Nat) (W : World) : Prop :=
  W.cell? ⟨b, 0, none⟩ = some (.int .i64 v.kind) ∧ W.cell? ⟨b, 1, none⟩ = some (.string (S v.ent.id)) ∧ W.cell? ⟨b, 2, none⟩ = some (.int .i64 v.ent.cls) ∧ W.cell? ⟨b, 3, none⟩ = some (.int .i64 v.ent.born) ∧ W.cell? ⟨b, 4, none⟩ = some (.int .i64 v.ent.slot) ∧
    W.cell? ⟨b, 5, none⟩ = some (.slice A v.ent.L.length ca) ∧ W.cell? ⟨b, 6, none⟩ = some (.bool v.ent.gone) ∧ W.cell? ⟨b, 7, none⟩ = some (.slice B v.ent.H.length cb) ∧ W.cell? ⟨b, 8, none⟩ = some (.int .i64 v.seq) ∧ W.cell? ⟨b, 9, none⟩ = some (.int .i64 v.idx) ∧
    W.cell? ⟨b, 10, none⟩ = some (.string (S v.name)) ∧ W.cell? ⟨b, 11, none⟩ = some (.int .i64 v.size) ∧ W.cell? ⟨b, 12, none⟩ = some (.string (S v.root)) ∧ W.cell? ⟨b, 13, none⟩ = some (.int .i64 v.now)
abbrev EvBoxC (kind : Int) (id : List UInt8) (cls born slot : Int) (n : Nat) (gone : Bool) (m : Nat) (seq idx : Int) (name : List UInt8) (size : Int) (root : List UInt8) (now : Int) (b : Nat) (A : Option Addr) (ca : Nat) (B : Option Addr) (cb : Nat) (W : World) : Prop :=
  W.cell? ⟨b, 0, none⟩ = some (.int .i64 kind) ∧ W.cell? ⟨b, 1, none⟩ = some (.string (S id)) ∧ W.cell? ⟨b, 2, none⟩ = some (.int .i64 cls) ∧ W.cell? ⟨b, 3, none⟩ = some (.int .i64 born) ∧ W.cell? ⟨b, 4, none⟩ = some (.int .i64 slot) ∧
    W.cell? ⟨b, 5, none⟩ = some (.slice A n ca) ∧ W.cell? ⟨b, 6, none⟩ = some (.bool gone) ∧ W.cell? ⟨b, 7, none⟩ = some (.slice B m cb) ∧ W.cell? ⟨b, 8, none⟩ = some (.int .i64 seq) ∧ W.cell? ⟨b, 9, none⟩ = some (.int .i64 idx) ∧
    W.cell? ⟨b, 10, none⟩ = some (.string (S name)) ∧ W.cell? ⟨b, 11, none⟩ = some (.int .i64 size) ∧ W.cell? ⟨b, 12, none⟩ = some (.string (S root)) ∧ W.cell? ⟨b, 13, none⟩ = some (.int .i64 now)
theorem EvBox.below {b : Nat} {v : Evt} {A B : Option Addr} {ca cb : Nat} {w w' : World} (h : EvBox b v A ca B cb w) (hb : Below w.heap.size w w') (hlt : b < w.heap.size) : EvBox b v A ca B cb w' := by
  have m := fun (i : Nat) (x : Value) (hc : w.cell? ⟨b, i, none⟩ = some x) => (hb.cell (p := ⟨b, i, none⟩) hlt).trans hc
  obtain ⟨h0, h1, h2, h3, h4, h5, h6, h7, h8, h9, h10, h11, h12, h13⟩ := h
  exact ⟨m _ _ h0, m _ _ h1, m _ _ h2, m _ _ h3, m _ _ h4, m _ _ h5, m _ _ h6, m _ _ h7, m _ _ h8, m _ _ h9, m _ _ h10, m _ _ h11, m _ _ h12, m _ _ h13⟩
abbrev RdQ (b0 p : Nat) (PA PB : Option Addr) (n pca m pcb : Nat) (size : Int) (W : World) : Prop := W.cell? ⟨b0, 11, none⟩ = some (.int .i64 size) ∧ W.cell? ⟨p, 0, none⟩ = some (.slice PA n pca) ∧ W.cell? ⟨p, 1, none⟩ = some (.slice PB m pcb)
abbrev RdQL (b0 p bq : Nat) (PA PB : Option Addr) (n pca m pcb k : Nat) (size ls : Int) (W : World) : Prop := W.cell? ⟨b0, 11, none⟩ = some (.int .i64 size) ∧ W.cell? ⟨p, 0, none⟩ = some (.slice PA n pca) ∧ W.cell? ⟨p, 1, none⟩ = some (.slice PB m pcb) ∧ W.cell? ⟨bq, k * 2, none⟩ = some (.int .i64 ls)
abbrev RdC (b0 p be n pca k : Nat) (kind : Int) (id : List UInt8) (cls born slot : Int) (ll : Nat) (gone : Bool) (hl : Nat) (idx : Int) (name : List UInt8) (size : Int) (root : List UInt8) (now : Int) (A : Option Addr) (ca : Nat) (B : Option Addr) (cb : Nat) (xid : List UInt8) (xcls xborn xslot : Int) (xA : Option Addr) (xl xca : Nat) (xgone : Bool) (xB : Option Addr) (xh xcb : Nat) (W : World) : Prop :=
  W.cell? ⟨p, 0, none⟩ = some (.slice (some ⟨be, 0, none⟩) n pca) ∧ EvBoxC kind id cls born slot ll gone hl (k : Int) idx name size root now b0 A ca B cb W ∧
    W.cell? ⟨be, k * 7, none⟩ = some (.string (S xid)) ∧ W.cell? ⟨be, k * 7 + 1, none⟩ = some (.int .i64 xcls) ∧ W.cell? ⟨be, k * 7 + 2, none⟩ = some (.int .i64 xborn) ∧ W.cell? ⟨be, k * 7 + 3, none⟩ = some (.int .i64 xslot) ∧
    W.cell? ⟨be, k * 7 + 4, none⟩ = some (.slice xA xl xca) ∧ W.cell? ⟨be, k * 7 + 5, none⟩ = some (.bool xgone) ∧ W.cell? ⟨be, k * 7 + 6, none⟩ = some (.slice xB xh xcb)
theorem RdC.below {b0 p be n pca k : Nat} {kind : Int} {id : List UInt8} {cls born slot : Int} {ll : Nat} {gone : Bool} {hl : Nat} {idx : Int} {name : List UInt8} {size : Int} {root : List UInt8} {now : Int} {A : Option Addr} {ca : Nat} {B : Option Addr} {cb : Nat} {xid : List UInt8} {xcls xborn xslot : Int} {xA : Option Addr} {xl xca : Nat} {xgone : Bool} {xB : Option Addr} {xh xcb : Nat} {w w' : World}
    (h : RdC b0 p be n pca k kind id cls born slot ll gone hl idx name size root now A ca B cb xid xcls xborn xslot xA xl xca xgone xB xh xcb w) (hb : Below w.heap.size w w') (h1 : b0 < w.heap.size) (h2 : p < w.heap.size) (h3 : be < w.heap.size) :
    RdC b0 p be n pca k kind id cls born slot ll gone hl idx name size root now A ca B cb xid xcls xborn xslot xA xl xca xgone xB xh xcb w' := by
  have m := fun (b : Nat) (hlt : b < w.heap.size) (i : Nat) (x : Value) (hc : w.cell? ⟨b, i, none⟩ = some x) => (hb.cell (p := ⟨b, i, none⟩) hlt).trans hc
  obtain ⟨p0, ⟨y0, y1, y2, y3, y4, y5, y6, y7, y8, y9, y10, y11, y12, y13⟩, e0, e1, e2, e3, e4, e5, e6⟩ := h
  exact ⟨m _ h2 _ _ p0, ⟨m _ h1 _ _ y0, m _ h1 _ _ y1, m _ h1 _ _ y2, m _ h1 _ _ y3, m _ h1 _ _ y4, m _ h1 _ _ y5, m _ h1 _ _ y6, m _ h1 _ _ y7, m _ h1 _ _ y8, m _ h1 _ _ y9, m _ h1 _ _ y10, m _ h1 _ _ y11, m _ h1 _ _ y12, m _ h1 _ _ y13⟩, m _ h3 _ _ e0, m _ h3 _ _ e1, m _ h3 _ _ e2, m _ h3 _ _ e3, m _ h3 _ _ e4, m _ h3 _ _ e5, m _ h3 _ _ e6⟩
theorem Sta.lessQ_at {Q : List Pt} {k : Nat} (h : Q.length = k + 1) (n : Int) : Sta.lessQ Q n = decide (n < (Q[k]'(by omega)).size) := by
  unfold Sta.lessQ
  rw [List.getLast?_eq_getElem?, show Q.length - 1 = k by omega, List.getElem?_eq_getElem (by omega)]
theorem Sta.lessQ_nil (n : Int) : Sta.lessQ [] n = false := rfl
set_option maxRecDepth 100000 in
set_option maxHeartbeats 16000000 in
theorem rcheck_any {w : World} {p : Nat} {s ot : List Nat} {st : Sta} (h : RefS w p s ot st) (hI : Sta.Inv st) {v : Evt} {A B : Option Addr} {ca cb : Nat} (hin : EntIn w [] v.ent A ca B cb) (hf : EvtFew v) :
    Calls Try.prog 11 #[.pointer (some ⟨p, 0, none⟩), v.val A ca B cb] w fun r w' => r = .returned (.int .i64 (Sta.check st v)) ∧ Below w.heap.size w w' := by
  have HRES : Hid (∀ r, Sta.check st v = r → (Ev.right v = false → r = 4) ∧ (Ev.right v = true → v.kind = 1 → r = Sta.paperC st v.ent) ∧ (Ev.right v = true → v.kind = 6 → r = if (st.P.length : Int) < v.size ∨ Sta.lessQ st.Q v.size = true then 21 else 0) ∧ (Ev.right v = true → v.kind = 7 → r = if v.now < st.now then 24 else 0) ∧
      (Ev.right v = true → v.kind ≠ 1 → v.kind ≠ 6 → v.kind ≠ 7 → (r = if (st.P.length : Int) ≤ v.seq then 7 else Sta.changeC (Sta.nth st.P v.seq.toNat) v) ∧ 0 ≤ v.seq ∧ (v.kind = 2 → 0 ≤ v.idx))) := Lib.hid (fun r h => by
    subst h
    unfold Sta.check
    refine ⟨fun h => by rw [if_pos h], fun h h1 => by rw [if_neg (by rw [h]; simp), if_pos h1], fun h h1 => by rw [if_neg (by rw [h]; simp), if_neg (by omega), if_pos h1], fun h h1 => by rw [if_neg (by rw [h]; simp), if_neg (by omega), if_neg (by omega), if_pos h1], fun h h1 h6 h7 => ⟨by rw [if_neg (by rw [h]; simp), if_neg h1, if_neg h6, if_neg h7], ?_, fun h2 => ?_⟩⟩
    · have hk := Ev.right_kind h
      rcases Ev.kinds v with q | q | q | q | q | q | q
      · omega
      · rw [Ev.right2 q, Bool.and_eq_true, Ev.rng_iff] at h; exact h.1.1
      · rw [Ev.right3 q, Ev.rng_iff] at h; exact h.1
      · rw [Ev.right4 q, Bool.and_eq_true, Ev.rng_iff] at h; exact h.1.1
      · omega
      · omega
      · omega
    · rw [Ev.right2 h2, Bool.and_eq_true, Ev.rng_iff, Ev.rng_iff] at h; exact h.2.1)
  obtain ⟨res, hres⟩ : ∃ res, Sta.check st v = res := ⟨_, rfl⟩
  have HR := Lib.hid (HRES.out res hres)
  rw [hres]
  clear hres HRES
  have hbv : Below w.heap.size w (w.alloc (.cells #[.int .i64 v.kind, .string (S v.ent.id), .int .i64 v.ent.cls, .int .i64 v.ent.born, .int .i64 v.ent.slot, .slice A v.ent.L.length ca, .bool v.ent.gone, .slice B v.ent.H.length cb, .int .i64 v.seq, .int .i64 v.idx, .string (S v.name), .int .i64 v.size, .string (S v.root), .int .i64 v.now] 37)) := (Below.refl _ w).alloc (Nat.le_refl _) _
  have hhv := Has.made w 37 #[.int .i64 v.kind, .string (S v.ent.id), .int .i64 v.ent.cls, .int .i64 v.ent.born, .int .i64 v.ent.slot, .slice A v.ent.L.length ca, .bool v.ent.gone, .slice B v.ent.H.length cb, .int .i64 v.seq, .int .i64 v.idx, .string (S v.name), .int .i64 v.size, .string (S v.root), .int .i64 v.now]
  have HRT := Lib.hid (erightV_any (EntIn.below hin hbv) hf)
  have HS := Lib.hid (h.below hbv)
  have HPA := Lib.hid (fun (W : World) (hb : Below w.heap.size w W) => rpaper_any (h.below hb) (by have := hI.few; omega) ⟨v.ent, A, ca, B, cb⟩)
  have HCH := Lib.hid (fun (W : World) (x : EntX) (hx : XIn W [] x) (hH : x.e.H.length ≤ 1000) (hi : v.kind = 2 → 0 ≤ v.idx) => rchange_any hx hH v hi A ca B cb)
  have HEN : Hid (∀ e ∈ st.P, e.H.length ≤ 1000) := Lib.hid (fun e he => by have := (Ev.entR_iff.1 (hI.right e he)).2.2.2.2.2.1; omega)
  have hP64 := hI.few
  have hbx : EvBox w.heap.size v A ca B cb (w.alloc (.cells #[.int .i64 v.kind, .string (S v.ent.id), .int .i64 v.ent.cls, .int .i64 v.ent.born, .int .i64 v.ent.slot, .slice A v.ent.L.length ca, .bool v.ent.gone, .slice B v.ent.H.length cb, .int .i64 v.seq, .int .i64 v.idx, .string (S v.name), .int .i64 v.size, .string (S v.root), .int .i64 v.now] 37)) := ⟨hhv.cell 0, hhv.cell 1, hhv.cell 2, hhv.cell 3, hhv.cell 4, hhv.cell 5, hhv.cell 6, hhv.cell 7, hhv.cell 8, hhv.cell 9, hhv.cell 10, hhv.cell 11, hhv.cell 12, hhv.cell 13⟩
  have hblt := hhv.lt
  clear hhv hin hf h hI
  unfold Evt.val at HRT HCH ⊢
  unfold EntX.val at HPA HCH
  generalize Ev.right v = RT at HRT HR
  generalize Sta.paperC st v.ent = PC at HPA HR
  obtain ⟨kind, ⟨id, cls, born, slot, L, gone, H⟩, seq, idx, name, size, root, now⟩ := v
  dsimp only at *
  go_enter Try.func11, Try.ntmps11
  go_upto_region 1 with fail
  generalize w.alloc (.cells #[.int .i64 kind, .string (S id), .int .i64 cls, .int .i64 born, .int .i64 slot, .slice A L.length ca, .bool gone, .slice B H.length cb, .int .i64 seq, .int .i64 idx, .string (S name), .int .i64 size, .string (S root), .int .i64 now] 37) = W0 at hbv hbx hblt HRT HS ⊢
  generalize w.heap.size = b0 at hbx hblt ⊢
  have HB := Lib.hid hbv
  have HBX := Lib.hid (And.intro hblt hbx)
  obtain ⟨y0, y1, y2, y3, y4, y5, y6, y7, y8, y9, y10, y11, y12, y13⟩ := hbx
  clear hbv
  go_wp2_with fail
  refine HRT.out.mono ?_
  rintro r w1 ⟨rfl, hb1⟩
  have HB1 := Lib.hid (HB.out.trans (hb1.mono HB.out.size))
  have HS1 := Lib.hid (HS.out.below hb1)
  have hbx1 := EvBox.below (v := ⟨kind, ⟨id, cls, born, slot, L, gone, H⟩, seq, idx, name, size, root, now⟩) HBX.out.2 hb1 HBX.out.1
  have hblt1 : b0 < w1.heap.size := Nat.lt_of_lt_of_le HBX.out.1 hb1.size
  clear hb1 HB HS HBX HRT y0 y1 y2 y3 y4 y5 y6 y7 y8 y9 y10 y11 y12 y13 hblt
  have HBX1 := Lib.hid (And.intro hblt1 hbx1)
  obtain ⟨y0, y1, y2, y3, y4, y5, y6, y7, y8, y9, y10, y11, y12, y13⟩ := hbx1
  dsimp only at y0 y1 y2 y3 y4 y5 y6 y7 y8 y9 y10 y11 y12 y13
  cases RT with
  | false =>
    have hr := HR.out.1 rfl
    subst hr
    go_wp2_with fail
    go_ret
    exact ⟨rfl, HB1.out⟩
  | true =>
    by_cases k1 : kind = 1
    · have hr := HR.out.2.1 rfl k1
      subst k1
      subst hr
      clear HR
      go_wp2_with fail
      refine (HPA.out _ HB1.out).mono ?_
      rintro r w2 ⟨rfl, hb2⟩
      have HB2 := Lib.hid (HB1.out.trans (hb2.mono HB1.out.size))
      clear hb2 y0 y1 y2 y3 y4 y5 y6 y7 y8 y9 y10 y11 y12 y13
      go_wp2_with fail
      go_ret
      exact ⟨rfl, HB2.out⟩
    have n1 : (kind == 1) = false := by rw [beq_eq_false_iff_ne]; exact k1
    obtain ⟨M, hM, hra⟩ := HS1.out
    obtain ⟨PA, pca, PB, pcb, hh, hca, hcb, hcm, hx, hqx⟩ := hra.reads
    have hPM : st.P.length = M.length := by rw [← hM, List.length_map]
    have hxin : Hid (∀ x ∈ M, XIn w1 [] x) := Lib.hid (fun x hx => (hra.ents x hx).sub (t := []) (by simp))
    have HMP : Hid (∀ k (hk : k < M.length), (M[k]).e ∈ st.P ∧ Sta.nth st.P k = (M[k]).e) := Lib.hid (fun k hk => by
      have hk2 : k < st.P.length := by omega
      have he : st.P[k] = (M[k]).e := by simp [← hM]
      refine ⟨by rw [← he]; exact List.getElem_mem hk2, ?_⟩
      unfold Sta.nth
      rw [List.getD_eq_getElem?_getD, List.getElem?_eq_getElem hk2, Option.getD_some, he])
    have p0 : w1.cell? ⟨p, 0, none⟩ = some (.slice PA M.length pca) := hh.cell 0
    have p1 : w1.cell? ⟨p, 1, none⟩ = some (.slice PB st.Q.length pcb) := hh.cell 1
    have p2 : w1.cell? ⟨p, 2, none⟩ = some (.int .i64 st.now) := hh.cell 2
    have HPLT := Lib.hid hh.lt
    have HX := Lib.hid hx
    have HQX := Lib.hid hqx
    rw [hPM] at HR hP64
    clear hx hqx hra hh HS1 hM hPM HPA
    by_cases k6 : kind = 6
    · have hr := HR.out.2.2.1 rfl k6
      subst k6
      have HRR := Lib.hid hr
      clear HR hr HCH HMP HX HEN
      have hpos : ∀ n : Nat, (0 : Int) ≤ (n : Int) := fun n => by omega
      by_cases hmore : (M.length : Int) < size
      · have hr := HRR.out
        rw [if_pos (Or.inl hmore)] at hr
        subst hr
        clear HRR HQX
        go_upto_region 11 with fail
        have hx : RdQ b0 p PA PB M.length pca st.Q.length pcb size w1.drew := ⟨y11, p0, p1⟩
        have HBD := Lib.hid HB1.out.drew
        clear y0 y1 y2 y3 y4 y5 y6 y7 y8 y9 y10 y11 y12 y13 p0 p1 p2
        refine wp_region_held_drew (S := RdQ b0 p PA PB M.length pca st.Q.length pcb size) (by kernel_rfl) hx (fun hHeld => ?_)
        generalize w1.drew = wd at hx hHeld HBD ⊢
        first
        | (refine tkW (i := 0) (v := ?_) rfl rfl ?_ ?_; rotate_left; (focus (intro w hSw; (try dsimp only at hSw); go_simp; first | done | with_reducible rfl)); (simp only [Act.at, setIfInBounds_toArray, set_cons_zero, set_cons_succ]))
        | (refine tkU (i := 0) rfl rfl ?_; (simp only [Act.at, setIfInBounds_toArray, set_cons_zero, set_cons_succ]))
        first
        | (refine tkW (i := 1) (v := ?_) rfl rfl ?_ ?_; rotate_left; (focus (intro w hSw; (try dsimp only at hSw); go_simp; first | done | with_reducible rfl)); (simp only [Act.at, setIfInBounds_toArray, set_cons_zero, set_cons_succ]))
        | (refine tkU (i := 1) rfl rfl ?_; (simp only [Act.at, setIfInBounds_toArray, set_cons_zero, set_cons_succ]))
        first
        | (refine tkW (i := 2) (v := ?_) rfl rfl ?_ ?_; rotate_left; (focus (intro w hSw; (try dsimp only at hSw); go_simp; first | done | with_reducible rfl)); (simp only [Act.at, setIfInBounds_toArray, set_cons_zero, set_cons_succ]))
        | (refine tkU (i := 2) rfl rfl ?_; (simp only [Act.at, setIfInBounds_toArray, set_cons_zero, set_cons_succ]))
        first
        | (refine tkW (i := 3) (v := ?_) rfl rfl ?_ ?_; rotate_left; (focus (intro w hSw; (try dsimp only at hSw); go_simp; first | done | with_reducible rfl)); (simp only [Act.at, setIfInBounds_toArray, set_cons_zero, set_cons_succ]))
        | (refine tkU (i := 3) rfl rfl ?_; (simp only [Act.at, setIfInBounds_toArray, set_cons_zero, set_cons_succ]))
        first
        | (refine tkW (i := 4) (v := ?_) rfl rfl ?_ ?_; rotate_left; (focus (intro w hSw; (try dsimp only at hSw); go_simp; first | done | with_reducible rfl)); (simp only [Act.at, setIfInBounds_toArray, set_cons_zero, set_cons_succ]))
        | (refine tkU (i := 4) rfl rfl ?_; (simp only [Act.at, setIfInBounds_toArray, set_cons_zero, set_cons_succ]))
        first
        | (refine tkW (i := 5) (v := ?_) rfl rfl ?_ ?_; rotate_left; (focus (intro w hSw; (try dsimp only at hSw); go_simp; first | done | with_reducible rfl)); (simp only [Act.at, setIfInBounds_toArray, set_cons_zero, set_cons_succ]))
        | (refine tkU (i := 5) rfl rfl ?_; (simp only [Act.at, setIfInBounds_toArray, set_cons_zero, set_cons_succ]))
        first
        | (refine tkW (i := 6) (v := ?_) rfl rfl ?_ ?_; rotate_left; (focus (intro w hSw; (try dsimp only at hSw); go_simp; first | done | with_reducible rfl)); (simp only [Act.at, setIfInBounds_toArray, set_cons_zero, set_cons_succ]))
        | (refine tkU (i := 6) rfl rfl ?_; (simp only [Act.at, setIfInBounds_toArray, set_cons_zero, set_cons_succ]))
        first
        | (refine tkW (i := 7) (v := ?_) rfl rfl ?_ ?_; rotate_left; (focus (intro w hSw; (try dsimp only at hSw); go_simp; first | done | with_reducible rfl)); (simp only [Act.at, setIfInBounds_toArray, set_cons_zero, set_cons_succ]))
        | (refine tkU (i := 7) rfl rfl ?_; (simp only [Act.at, setIfInBounds_toArray, set_cons_zero, set_cons_succ]))
        first
        | (refine tkW (i := 8) (v := ?_) rfl rfl ?_ ?_; rotate_left; (focus (intro w hSw; (try dsimp only at hSw); go_simp; first | done | with_reducible rfl)); (simp only [Act.at, setIfInBounds_toArray, set_cons_zero, set_cons_succ]))
        | (refine tkU (i := 8) rfl rfl ?_; (simp only [Act.at, setIfInBounds_toArray, set_cons_zero, set_cons_succ]))
        first
        | (refine tkW (i := 9) (v := ?_) rfl rfl ?_ ?_; rotate_left; (focus (intro w hSw; (try dsimp only at hSw); go_simp; first | done | with_reducible rfl)); (simp only [Act.at, setIfInBounds_toArray, set_cons_zero, set_cons_succ]))
        | (refine tkU (i := 9) rfl rfl ?_; (simp only [Act.at, setIfInBounds_toArray, set_cons_zero, set_cons_succ]))
        first
        | (refine tkW (i := 10) (v := ?_) rfl rfl ?_ ?_; rotate_left; (focus (intro w hSw; (try dsimp only at hSw); go_simp; first | done | with_reducible rfl)); (simp only [Act.at, setIfInBounds_toArray, set_cons_zero, set_cons_succ]))
        | (refine tkU (i := 10) rfl rfl ?_; (simp only [Act.at, setIfInBounds_toArray, set_cons_zero, set_cons_succ]))
        first
        | (refine tkW (i := 11) (v := ?_) rfl rfl ?_ ?_; rotate_left; (focus (intro w hSw; (try dsimp only at hSw); go_simp; first | done | with_reducible rfl)); (simp only [Act.at, setIfInBounds_toArray, set_cons_zero, set_cons_succ]))
        | (refine tkU (i := 11) rfl rfl ?_; (simp only [Act.at, setIfInBounds_toArray, set_cons_zero, set_cons_succ]))
        first
        | (refine tkW (i := 12) (v := ?_) rfl rfl ?_ ?_; rotate_left; (focus (intro w hSw; (try dsimp only at hSw); go_simp; first | done | with_reducible rfl)); (simp only [Act.at, setIfInBounds_toArray, set_cons_zero, set_cons_succ]))
        | (refine tkU (i := 12) rfl rfl ?_; (simp only [Act.at, setIfInBounds_toArray, set_cons_zero, set_cons_succ]))
        first
        | (refine tkW (i := 13) (v := ?_) rfl rfl ?_ ?_; rotate_left; (focus (intro w hSw; (try dsimp only at hSw); go_simp; first | done | with_reducible rfl)); (simp only [Act.at, setIfInBounds_toArray, set_cons_zero, set_cons_succ]))
        | (refine tkU (i := 13) rfl rfl ?_; (simp only [Act.at, setIfInBounds_toArray, set_cons_zero, set_cons_succ]))
        first
        | (refine tkW (i := 14) (v := ?_) rfl rfl ?_ ?_; rotate_left; (focus (intro w hSw; (try dsimp only at hSw); go_simp; first | done | with_reducible rfl)); (simp only [Act.at, setIfInBounds_toArray, set_cons_zero, set_cons_succ]))
        | (refine tkU (i := 14) rfl rfl ?_; (simp only [Act.at, setIfInBounds_toArray, set_cons_zero, set_cons_succ]))
        first
        | (refine tkW (i := 15) (v := ?_) rfl rfl ?_ ?_; rotate_left; (focus (intro w hSw; (try dsimp only at hSw); go_simp; first | done | with_reducible rfl)); (simp only [Act.at, setIfInBounds_toArray, set_cons_zero, set_cons_succ]))
        | (refine tkU (i := 15) rfl rfl ?_; (simp only [Act.at, setIfInBounds_toArray, set_cons_zero, set_cons_succ]))
        first
        | (refine tkW (i := 16) (v := ?_) rfl rfl ?_ ?_; rotate_left; (focus (intro w hSw; (try dsimp only at hSw); go_simp; first | done | with_reducible rfl)); (simp only [Act.at, setIfInBounds_toArray, set_cons_zero, set_cons_succ]))
        | (refine tkU (i := 16) rfl rfl ?_; (simp only [Act.at, setIfInBounds_toArray, set_cons_zero, set_cons_succ]))
        first
        | (refine tkW (i := 17) (v := ?_) rfl rfl ?_ ?_; rotate_left; (focus (intro w hSw; (try dsimp only at hSw); go_simp; first | done | with_reducible rfl)); (simp only [Act.at, setIfInBounds_toArray, set_cons_zero, set_cons_succ]))
        | (refine tkU (i := 17) rfl rfl ?_; (simp only [Act.at, setIfInBounds_toArray, set_cons_zero, set_cons_succ]))
        first
        | (refine tkW (i := 18) (v := ?_) rfl rfl ?_ ?_; rotate_left; (focus (intro w hSw; (try dsimp only at hSw); go_simp; first | done | with_reducible rfl)); (simp only [Act.at, setIfInBounds_toArray, set_cons_zero, set_cons_succ]))
        | (refine tkU (i := 18) rfl rfl ?_; (simp only [Act.at, setIfInBounds_toArray, set_cons_zero, set_cons_succ]))
        first
        | (refine tkW (i := 19) (v := ?_) rfl rfl ?_ ?_; rotate_left; (focus (intro w hSw; (try dsimp only at hSw); go_simp; first | done | with_reducible rfl)); (simp only [Act.at, setIfInBounds_toArray, set_cons_zero, set_cons_succ]))
        | (refine tkU (i := 19) rfl rfl ?_; (simp only [Act.at, setIfInBounds_toArray, set_cons_zero, set_cons_succ]))
        first
        | (refine tkW (i := 20) (v := ?_) rfl rfl ?_ ?_; rotate_left; (focus (intro w hSw; (try dsimp only at hSw); go_simp; first | done | with_reducible rfl)); (simp only [Act.at, setIfInBounds_toArray, set_cons_zero, set_cons_succ]))
        | (refine tkU (i := 20) rfl rfl ?_; (simp only [Act.at, setIfInBounds_toArray, set_cons_zero, set_cons_succ]))
        first
        | (refine tkW (i := 21) (v := ?_) rfl rfl ?_ ?_; rotate_left; (focus (intro w hSw; (try dsimp only at hSw); go_simp; first | done | with_reducible rfl)); (simp only [Act.at, setIfInBounds_toArray, set_cons_zero, set_cons_succ]))
        | (refine tkU (i := 21) rfl rfl ?_; (simp only [Act.at, setIfInBounds_toArray, set_cons_zero, set_cons_succ]))
        first
        | (refine tkW (i := 22) (v := ?_) rfl rfl ?_ ?_; rotate_left; (focus (intro w hSw; (try dsimp only at hSw); go_simp; first | done | with_reducible rfl)); (simp only [Act.at, setIfInBounds_toArray, set_cons_zero, set_cons_succ]))
        | (refine tkU (i := 22) rfl rfl ?_; (simp only [Act.at, setIfInBounds_toArray, set_cons_zero, set_cons_succ]))
        first
        | (refine tkW (i := 23) (v := ?_) rfl rfl ?_ ?_; rotate_left; (focus (intro w hSw; (try dsimp only at hSw); go_simp; first | done | with_reducible rfl)); (simp only [Act.at, setIfInBounds_toArray, set_cons_zero, set_cons_succ]))
        | (refine tkU (i := 23) rfl rfl ?_; (simp only [Act.at, setIfInBounds_toArray, set_cons_zero, set_cons_succ]))
        first
        | (refine tkW (i := 24) (v := ?_) rfl rfl ?_ ?_; rotate_left; (focus (intro w hSw; (try dsimp only at hSw); go_simp; first | done | with_reducible rfl)); (simp only [Act.at, setIfInBounds_toArray, set_cons_zero, set_cons_succ]))
        | (refine tkU (i := 24) rfl rfl ?_; (simp only [Act.at, setIfInBounds_toArray, set_cons_zero, set_cons_succ]))
        first
        | (refine tkW (i := 25) (v := ?_) rfl rfl ?_ ?_; rotate_left; (focus (intro w hSw; (try dsimp only at hSw); go_simp; first | done | with_reducible rfl)); (simp only [Act.at, setIfInBounds_toArray, set_cons_zero, set_cons_succ]))
        | (refine tkU (i := 25) rfl rfl ?_; (simp only [Act.at, setIfInBounds_toArray, set_cons_zero, set_cons_succ]))
        first
        | (refine tkW (i := 26) (v := ?_) rfl rfl ?_ ?_; rotate_left; (focus (intro w hSw; (try dsimp only at hSw); go_simp; first | done | with_reducible rfl)); (simp only [Act.at, setIfInBounds_toArray, set_cons_zero, set_cons_succ]))
        | (refine tkU (i := 26) rfl rfl ?_; (simp only [Act.at, setIfInBounds_toArray, set_cons_zero, set_cons_succ]))
        first
        | (refine tkW (i := 27) (v := ?_) rfl rfl ?_ ?_; rotate_left; (focus (intro w hSw; (try dsimp only at hSw); go_simp; first | done | with_reducible rfl)); (simp only [Act.at, setIfInBounds_toArray, set_cons_zero, set_cons_succ]))
        | (refine tkU (i := 27) rfl rfl ?_; (simp only [Act.at, setIfInBounds_toArray, set_cons_zero, set_cons_succ]))
        refine wpAnyH_done (by kernel_rfl) ?_ _
        go_wp2_with fail
        go_ret
        exact ⟨rfl, HBD.out⟩
      · have hmd : decide ((M.length : Int) < size) = false := decide_eq_false hmore
        cases hq : st.Q.length with
        | zero =>
          have hQ : st.Q = [] := List.eq_nil_of_length_eq_zero hq
          have hr := HRR.out
          rw [hQ, Sta.lessQ_nil, if_neg (by simp; omega)] at hr
          subst hr
          rw [hq] at p1
          clear HRR HQX hq hQ
          go_upto_region 11 with fail
          have hx : RdQ b0 p PA PB M.length pca 0 pcb size w1.drew := ⟨y11, p0, p1⟩
          have HBD := Lib.hid HB1.out.drew
          clear y0 y1 y2 y3 y4 y5 y6 y7 y8 y9 y10 y11 y12 y13 p0 p1 p2
          refine wp_region_held_drew (S := RdQ b0 p PA PB M.length pca 0 pcb size) (by kernel_rfl) hx (fun hHeld => ?_)
          generalize w1.drew = wd at hx hHeld HBD ⊢
          first
          | (refine tkW (i := 0) (v := ?_) rfl rfl ?_ ?_; rotate_left; (focus (intro w hSw; (try dsimp only at hSw); go_simp; (try simp only [hmd, if_true, if_false, Result.andThen_ok]); first | done | with_reducible rfl)); (simp only [Act.at, setIfInBounds_toArray, set_cons_zero, set_cons_succ]))
          | (refine tkU (i := 0) rfl rfl ?_; (simp only [Act.at, setIfInBounds_toArray, set_cons_zero, set_cons_succ]))
          first
          | (refine tkW (i := 1) (v := ?_) rfl rfl ?_ ?_; rotate_left; (focus (intro w hSw; (try dsimp only at hSw); go_simp; (try simp only [hmd, if_true, if_false, Result.andThen_ok]); first | done | with_reducible rfl)); (simp only [Act.at, setIfInBounds_toArray, set_cons_zero, set_cons_succ]))
          | (refine tkU (i := 1) rfl rfl ?_; (simp only [Act.at, setIfInBounds_toArray, set_cons_zero, set_cons_succ]))
          first
          | (refine tkW (i := 2) (v := ?_) rfl rfl ?_ ?_; rotate_left; (focus (intro w hSw; (try dsimp only at hSw); go_simp; (try simp only [hmd, if_true, if_false, Result.andThen_ok]); first | done | with_reducible rfl)); (simp only [Act.at, setIfInBounds_toArray, set_cons_zero, set_cons_succ]))
          | (refine tkU (i := 2) rfl rfl ?_; (simp only [Act.at, setIfInBounds_toArray, set_cons_zero, set_cons_succ]))
          first
          | (refine tkW (i := 3) (v := ?_) rfl rfl ?_ ?_; rotate_left; (focus (intro w hSw; (try dsimp only at hSw); go_simp; (try simp only [hmd, if_true, if_false, Result.andThen_ok]); first | done | with_reducible rfl)); (simp only [Act.at, setIfInBounds_toArray, set_cons_zero, set_cons_succ]))
          | (refine tkU (i := 3) rfl rfl ?_; (simp only [Act.at, setIfInBounds_toArray, set_cons_zero, set_cons_succ]))
          first
          | (refine tkW (i := 4) (v := ?_) rfl rfl ?_ ?_; rotate_left; (focus (intro w hSw; (try dsimp only at hSw); go_simp; (try simp only [hmd, if_true, if_false, Result.andThen_ok]); first | done | with_reducible rfl)); (simp only [Act.at, setIfInBounds_toArray, set_cons_zero, set_cons_succ]))
          | (refine tkU (i := 4) rfl rfl ?_; (simp only [Act.at, setIfInBounds_toArray, set_cons_zero, set_cons_succ]))
          first
          | (refine tkW (i := 5) (v := ?_) rfl rfl ?_ ?_; rotate_left; (focus (intro w hSw; (try dsimp only at hSw); go_simp; (try simp only [hmd, if_true, if_false, Result.andThen_ok]); first | done | with_reducible rfl)); (simp only [Act.at, setIfInBounds_toArray, set_cons_zero, set_cons_succ]))
          | (refine tkU (i := 5) rfl rfl ?_; (simp only [Act.at, setIfInBounds_toArray, set_cons_zero, set_cons_succ]))
          first
          | (refine tkW (i := 6) (v := ?_) rfl rfl ?_ ?_; rotate_left; (focus (intro w hSw; (try dsimp only at hSw); go_simp; (try simp only [hmd, if_true, if_false, Result.andThen_ok]); first | done | with_reducible rfl)); (simp only [Act.at, setIfInBounds_toArray, set_cons_zero, set_cons_succ]))
          | (refine tkU (i := 6) rfl rfl ?_; (simp only [Act.at, setIfInBounds_toArray, set_cons_zero, set_cons_succ]))
          first
          | (refine tkW (i := 7) (v := ?_) rfl rfl ?_ ?_; rotate_left; (focus (intro w hSw; (try dsimp only at hSw); go_simp; (try simp only [hmd, if_true, if_false, Result.andThen_ok]); first | done | with_reducible rfl)); (simp only [Act.at, setIfInBounds_toArray, set_cons_zero, set_cons_succ]))
          | (refine tkU (i := 7) rfl rfl ?_; (simp only [Act.at, setIfInBounds_toArray, set_cons_zero, set_cons_succ]))
          first
          | (refine tkW (i := 8) (v := ?_) rfl rfl ?_ ?_; rotate_left; (focus (intro w hSw; (try dsimp only at hSw); go_simp; (try simp only [hmd, if_true, if_false, Result.andThen_ok]); first | done | with_reducible rfl)); (simp only [Act.at, setIfInBounds_toArray, set_cons_zero, set_cons_succ]))
          | (refine tkU (i := 8) rfl rfl ?_; (simp only [Act.at, setIfInBounds_toArray, set_cons_zero, set_cons_succ]))
          first
          | (refine tkW (i := 9) (v := ?_) rfl rfl ?_ ?_; rotate_left; (focus (intro w hSw; (try dsimp only at hSw); go_simp; (try simp only [hmd, if_true, if_false, Result.andThen_ok]); first | done | with_reducible rfl)); (simp only [Act.at, setIfInBounds_toArray, set_cons_zero, set_cons_succ]))
          | (refine tkU (i := 9) rfl rfl ?_; (simp only [Act.at, setIfInBounds_toArray, set_cons_zero, set_cons_succ]))
          first
          | (refine tkW (i := 10) (v := ?_) rfl rfl ?_ ?_; rotate_left; (focus (intro w hSw; (try dsimp only at hSw); go_simp; (try simp only [hmd, if_true, if_false, Result.andThen_ok]); first | done | with_reducible rfl)); (simp only [Act.at, setIfInBounds_toArray, set_cons_zero, set_cons_succ]))
          | (refine tkU (i := 10) rfl rfl ?_; (simp only [Act.at, setIfInBounds_toArray, set_cons_zero, set_cons_succ]))
          first
          | (refine tkW (i := 11) (v := ?_) rfl rfl ?_ ?_; rotate_left; (focus (intro w hSw; (try dsimp only at hSw); go_simp; (try simp only [hmd, if_true, if_false, Result.andThen_ok]); first | done | with_reducible rfl)); (simp only [Act.at, setIfInBounds_toArray, set_cons_zero, set_cons_succ]))
          | (refine tkU (i := 11) rfl rfl ?_; (simp only [Act.at, setIfInBounds_toArray, set_cons_zero, set_cons_succ]))
          first
          | (refine tkW (i := 12) (v := ?_) rfl rfl ?_ ?_; rotate_left; (focus (intro w hSw; (try dsimp only at hSw); go_simp; (try simp only [hmd, if_true, if_false, Result.andThen_ok]); first | done | with_reducible rfl)); (simp only [Act.at, setIfInBounds_toArray, set_cons_zero, set_cons_succ]))
          | (refine tkU (i := 12) rfl rfl ?_; (simp only [Act.at, setIfInBounds_toArray, set_cons_zero, set_cons_succ]))
          first
          | (refine tkW (i := 13) (v := ?_) rfl rfl ?_ ?_; rotate_left; (focus (intro w hSw; (try dsimp only at hSw); go_simp; (try simp only [hmd, if_true, if_false, Result.andThen_ok]); first | done | with_reducible rfl)); (simp only [Act.at, setIfInBounds_toArray, set_cons_zero, set_cons_succ]))
          | (refine tkU (i := 13) rfl rfl ?_; (simp only [Act.at, setIfInBounds_toArray, set_cons_zero, set_cons_succ]))
          first
          | (refine tkW (i := 14) (v := ?_) rfl rfl ?_ ?_; rotate_left; (focus (intro w hSw; (try dsimp only at hSw); go_simp; (try simp only [hmd, if_true, if_false, Result.andThen_ok]); first | done | with_reducible rfl)); (simp only [Act.at, setIfInBounds_toArray, set_cons_zero, set_cons_succ]))
          | (refine tkU (i := 14) rfl rfl ?_; (simp only [Act.at, setIfInBounds_toArray, set_cons_zero, set_cons_succ]))
          first
          | (refine tkW (i := 15) (v := ?_) rfl rfl ?_ ?_; rotate_left; (focus (intro w hSw; (try dsimp only at hSw); go_simp; (try simp only [hmd, if_true, if_false, Result.andThen_ok]); first | done | with_reducible rfl)); (simp only [Act.at, setIfInBounds_toArray, set_cons_zero, set_cons_succ]))
          | (refine tkU (i := 15) rfl rfl ?_; (simp only [Act.at, setIfInBounds_toArray, set_cons_zero, set_cons_succ]))
          first
          | (refine tkW (i := 16) (v := ?_) rfl rfl ?_ ?_; rotate_left; (focus (intro w hSw; (try dsimp only at hSw); go_simp; (try simp only [hmd, if_true, if_false, Result.andThen_ok]); first | done | with_reducible rfl)); (simp only [Act.at, setIfInBounds_toArray, set_cons_zero, set_cons_succ]))
          | (refine tkU (i := 16) rfl rfl ?_; (simp only [Act.at, setIfInBounds_toArray, set_cons_zero, set_cons_succ]))
          first
          | (refine tkW (i := 17) (v := ?_) rfl rfl ?_ ?_; rotate_left; (focus (intro w hSw; (try dsimp only at hSw); go_simp; (try simp only [hmd, if_true, if_false, Result.andThen_ok]); first | done | with_reducible rfl)); (simp only [Act.at, setIfInBounds_toArray, set_cons_zero, set_cons_succ]))
          | (refine tkU (i := 17) rfl rfl ?_; (simp only [Act.at, setIfInBounds_toArray, set_cons_zero, set_cons_succ]))
          first
          | (refine tkW (i := 18) (v := ?_) rfl rfl ?_ ?_; rotate_left; (focus (intro w hSw; (try dsimp only at hSw); go_simp; (try simp only [hmd, if_true, if_false, Result.andThen_ok]); first | done | with_reducible rfl)); (simp only [Act.at, setIfInBounds_toArray, set_cons_zero, set_cons_succ]))
          | (refine tkU (i := 18) rfl rfl ?_; (simp only [Act.at, setIfInBounds_toArray, set_cons_zero, set_cons_succ]))
          first
          | (refine tkW (i := 19) (v := ?_) rfl rfl ?_ ?_; rotate_left; (focus (intro w hSw; (try dsimp only at hSw); go_simp; (try simp only [hmd, if_true, if_false, Result.andThen_ok]); first | done | with_reducible rfl)); (simp only [Act.at, setIfInBounds_toArray, set_cons_zero, set_cons_succ]))
          | (refine tkU (i := 19) rfl rfl ?_; (simp only [Act.at, setIfInBounds_toArray, set_cons_zero, set_cons_succ]))
          first
          | (refine tkW (i := 20) (v := ?_) rfl rfl ?_ ?_; rotate_left; (focus (intro w hSw; (try dsimp only at hSw); go_simp; (try simp only [hmd, if_true, if_false, Result.andThen_ok]); first | done | with_reducible rfl)); (simp only [Act.at, setIfInBounds_toArray, set_cons_zero, set_cons_succ]))
          | (refine tkU (i := 20) rfl rfl ?_; (simp only [Act.at, setIfInBounds_toArray, set_cons_zero, set_cons_succ]))
          first
          | (refine tkW (i := 21) (v := ?_) rfl rfl ?_ ?_; rotate_left; (focus (intro w hSw; (try dsimp only at hSw); go_simp; (try simp only [hmd, if_true, if_false, Result.andThen_ok]); first | done | with_reducible rfl)); (simp only [Act.at, setIfInBounds_toArray, set_cons_zero, set_cons_succ]))
          | (refine tkU (i := 21) rfl rfl ?_; (simp only [Act.at, setIfInBounds_toArray, set_cons_zero, set_cons_succ]))
          first
          | (refine tkW (i := 22) (v := ?_) rfl rfl ?_ ?_; rotate_left; (focus (intro w hSw; (try dsimp only at hSw); go_simp; (try simp only [hmd, if_true, if_false, Result.andThen_ok]); first | done | with_reducible rfl)); (simp only [Act.at, setIfInBounds_toArray, set_cons_zero, set_cons_succ]))
          | (refine tkU (i := 22) rfl rfl ?_; (simp only [Act.at, setIfInBounds_toArray, set_cons_zero, set_cons_succ]))
          first
          | (refine tkW (i := 23) (v := ?_) rfl rfl ?_ ?_; rotate_left; (focus (intro w hSw; (try dsimp only at hSw); go_simp; (try simp only [hmd, if_true, if_false, Result.andThen_ok]); first | done | with_reducible rfl)); (simp only [Act.at, setIfInBounds_toArray, set_cons_zero, set_cons_succ]))
          | (refine tkU (i := 23) rfl rfl ?_; (simp only [Act.at, setIfInBounds_toArray, set_cons_zero, set_cons_succ]))
          first
          | (refine tkW (i := 24) (v := ?_) rfl rfl ?_ ?_; rotate_left; (focus (intro w hSw; (try dsimp only at hSw); go_simp; (try simp only [hmd, if_true, if_false, Result.andThen_ok]); first | done | with_reducible rfl)); (simp only [Act.at, setIfInBounds_toArray, set_cons_zero, set_cons_succ]))
          | (refine tkU (i := 24) rfl rfl ?_; (simp only [Act.at, setIfInBounds_toArray, set_cons_zero, set_cons_succ]))
          first
          | (refine tkW (i := 25) (v := ?_) rfl rfl ?_ ?_; rotate_left; (focus (intro w hSw; (try dsimp only at hSw); go_simp; (try simp only [hmd, if_true, if_false, Result.andThen_ok]); first | done | with_reducible rfl)); (simp only [Act.at, setIfInBounds_toArray, set_cons_zero, set_cons_succ]))
          | (refine tkU (i := 25) rfl rfl ?_; (simp only [Act.at, setIfInBounds_toArray, set_cons_zero, set_cons_succ]))
          first
          | (refine tkW (i := 26) (v := ?_) rfl rfl ?_ ?_; rotate_left; (focus (intro w hSw; (try dsimp only at hSw); go_simp; (try simp only [hmd, if_true, if_false, Result.andThen_ok]); first | done | with_reducible rfl)); (simp only [Act.at, setIfInBounds_toArray, set_cons_zero, set_cons_succ]))
          | (refine tkU (i := 26) rfl rfl ?_; (simp only [Act.at, setIfInBounds_toArray, set_cons_zero, set_cons_succ]))
          first
          | (refine tkW (i := 27) (v := ?_) rfl rfl ?_ ?_; rotate_left; (focus (intro w hSw; (try dsimp only at hSw); go_simp; (try simp only [hmd, if_true, if_false, Result.andThen_ok]); first | done | with_reducible rfl)); (simp only [Act.at, setIfInBounds_toArray, set_cons_zero, set_cons_succ]))
          | (refine tkU (i := 27) rfl rfl ?_; (simp only [Act.at, setIfInBounds_toArray, set_cons_zero, set_cons_succ]))
          refine wpAnyH_done (by kernel_rfl) ?_ _
          go_wp2_with fail
          go_ret
          exact ⟨rfl, HBD.out⟩
        | succ k =>
          have hk : k < st.Q.length := by omega
          obtain ⟨bq, hB, hbl, q0, -⟩ := HQX.out k hk
          have hlq := Sta.lessQ_at hq size
          rw [hlq] at HRR
          generalize (st.Q[k]'hk).size = ls at q0 HRR
          subst hB
          have hN : ((k + 1 : Nat) : Int) = (k : Int) + 1 := by omega
          have hk1 : (0 : Int) < ((k + 1 : Nat) : Int) := by omega
          have hkd : decide ((0 : Int) < ((k + 1 : Nat) : Int)) = true := decide_eq_true hk1
          have hkn : decide (0 < k + 1) = true := decide_eq_true (Nat.succ_pos k)
          have hw1 : IntKind.i64.wrap (((k + 1 : Nat) : Int) - 1) = (k : Int) := by rw [IntKind.wrap_i64]; omega
          have hki : (k : Int) < ((k + 1 : Nat) : Int) := by omega
          have hk0 : (0 : Int) ≤ (k : Int) := by omega
          rw [hq] at p1
          clear hlq HQX hN hq hk hbl hcb
          generalize k + 1 = K at p1 hk1 hkd hkn hw1 hki ⊢
          go_upto_region 11 with fail
          have hx : RdQL b0 p bq PA (some ⟨bq, 0, none⟩) M.length pca K pcb k size ls w1.drew := ⟨y11, p0, p1, q0⟩
          have HBD := Lib.hid HB1.out.drew
          clear y0 y1 y2 y3 y4 y5 y6 y7 y8 y9 y10 y11 y12 y13 p0 p1 p2 q0
          refine wp_region_held_drew (S := RdQL b0 p bq PA (some ⟨bq, 0, none⟩) M.length pca K pcb k size ls) (by kernel_rfl) hx (fun hHeld => ?_)
          generalize w1.drew = wd at hx hHeld HBD ⊢
          by_cases hls : size < ls
          · have hr := HRR.out
            rw [if_pos (Or.inr (decide_eq_true hls))] at hr
            subst hr
            clear HRR
            first
            | (refine tkW (i := 0) (v := ?_) rfl rfl ?_ ?_; rotate_left; (focus (intro w hSw; (try dsimp only at hSw); go_simp; (try simp only [hmd, hkd, hkn, if_true, if_false, Result.andThen_ok]); first | done | with_reducible rfl)); (simp only [Act.at, setIfInBounds_toArray, set_cons_zero, set_cons_succ]))
            | (refine tkU (i := 0) rfl rfl ?_; (simp only [Act.at, setIfInBounds_toArray, set_cons_zero, set_cons_succ]))
            first
            | (refine tkW (i := 1) (v := ?_) rfl rfl ?_ ?_; rotate_left; (focus (intro w hSw; (try dsimp only at hSw); go_simp; (try simp only [hmd, hkd, hkn, if_true, if_false, Result.andThen_ok]); first | done | with_reducible rfl)); (simp only [Act.at, setIfInBounds_toArray, set_cons_zero, set_cons_succ]))
            | (refine tkU (i := 1) rfl rfl ?_; (simp only [Act.at, setIfInBounds_toArray, set_cons_zero, set_cons_succ]))
            first
            | (refine tkW (i := 2) (v := ?_) rfl rfl ?_ ?_; rotate_left; (focus (intro w hSw; (try dsimp only at hSw); go_simp; (try simp only [hmd, hkd, hkn, if_true, if_false, Result.andThen_ok]); first | done | with_reducible rfl)); (simp only [Act.at, setIfInBounds_toArray, set_cons_zero, set_cons_succ]))
            | (refine tkU (i := 2) rfl rfl ?_; (simp only [Act.at, setIfInBounds_toArray, set_cons_zero, set_cons_succ]))
            first
            | (refine tkW (i := 3) (v := ?_) rfl rfl ?_ ?_; rotate_left; (focus (intro w hSw; (try dsimp only at hSw); go_simp; (try simp only [hmd, hkd, hkn, if_true, if_false, Result.andThen_ok]); first | done | with_reducible rfl)); (simp only [Act.at, setIfInBounds_toArray, set_cons_zero, set_cons_succ]))
            | (refine tkU (i := 3) rfl rfl ?_; (simp only [Act.at, setIfInBounds_toArray, set_cons_zero, set_cons_succ]))
            first
            | (refine tkW (i := 4) (v := ?_) rfl rfl ?_ ?_; rotate_left; (focus (intro w hSw; (try dsimp only at hSw); go_simp; (try simp only [hmd, hkd, hkn, if_true, if_false, Result.andThen_ok]); first | done | with_reducible rfl)); (simp only [Act.at, setIfInBounds_toArray, set_cons_zero, set_cons_succ]))
            | (refine tkU (i := 4) rfl rfl ?_; (simp only [Act.at, setIfInBounds_toArray, set_cons_zero, set_cons_succ]))
            first
            | (refine tkW (i := 5) (v := ?_) rfl rfl ?_ ?_; rotate_left; (focus (intro w hSw; (try dsimp only at hSw); go_simp; (try simp only [hmd, hkd, hkn, if_true, if_false, Result.andThen_ok]); first | done | with_reducible rfl)); (simp only [Act.at, setIfInBounds_toArray, set_cons_zero, set_cons_succ]))
            | (refine tkU (i := 5) rfl rfl ?_; (simp only [Act.at, setIfInBounds_toArray, set_cons_zero, set_cons_succ]))
            first
            | (refine tkW (i := 6) (v := ?_) rfl rfl ?_ ?_; rotate_left; (focus (intro w hSw; (try dsimp only at hSw); go_simp; (try simp only [hmd, hkd, hkn, if_true, if_false, Result.andThen_ok]); first | done | with_reducible rfl)); (simp only [Act.at, setIfInBounds_toArray, set_cons_zero, set_cons_succ]))
            | (refine tkU (i := 6) rfl rfl ?_; (simp only [Act.at, setIfInBounds_toArray, set_cons_zero, set_cons_succ]))
            first
            | (refine tkW (i := 7) (v := ?_) rfl rfl ?_ ?_; rotate_left; (focus (intro w hSw; (try dsimp only at hSw); go_simp; (try simp only [hmd, hkd, hkn, if_true, if_false, Result.andThen_ok]); first | done | with_reducible rfl)); (simp only [Act.at, setIfInBounds_toArray, set_cons_zero, set_cons_succ]))
            | (refine tkU (i := 7) rfl rfl ?_; (simp only [Act.at, setIfInBounds_toArray, set_cons_zero, set_cons_succ]))
            first
            | (refine tkW (i := 8) (v := ?_) rfl rfl ?_ ?_; rotate_left; (focus (intro w hSw; (try dsimp only at hSw); go_simp; (try simp only [hmd, hkd, hkn, if_true, if_false, Result.andThen_ok]); first | done | with_reducible rfl)); (simp only [Act.at, setIfInBounds_toArray, set_cons_zero, set_cons_succ]))
            | (refine tkU (i := 8) rfl rfl ?_; (simp only [Act.at, setIfInBounds_toArray, set_cons_zero, set_cons_succ]))
            first
            | (refine tkW (i := 9) (v := ?_) rfl rfl ?_ ?_; rotate_left; (focus (intro w hSw; (try dsimp only at hSw); go_simp; (try simp only [hmd, hkd, hkn, if_true, if_false, Result.andThen_ok]); first | done | with_reducible rfl)); (simp only [Act.at, setIfInBounds_toArray, set_cons_zero, set_cons_succ]))
            | (refine tkU (i := 9) rfl rfl ?_; (simp only [Act.at, setIfInBounds_toArray, set_cons_zero, set_cons_succ]))
            first
            | (refine tkW (i := 10) (v := ?_) rfl rfl ?_ ?_; rotate_left; (focus (intro w hSw; (try dsimp only at hSw); go_simp; (try simp only [hmd, hkd, hkn, if_true, if_false, Result.andThen_ok]); first | done | with_reducible rfl)); (simp only [Act.at, setIfInBounds_toArray, set_cons_zero, set_cons_succ]))
            | (refine tkU (i := 10) rfl rfl ?_; (simp only [Act.at, setIfInBounds_toArray, set_cons_zero, set_cons_succ]))
            first
            | (refine tkW (i := 11) (v := ?_) rfl rfl ?_ ?_; rotate_left; (focus (intro w hSw; (try dsimp only at hSw); go_simp; (try simp only [hmd, hkd, hkn, if_true, if_false, Result.andThen_ok]); first | done | with_reducible rfl)); (simp only [Act.at, setIfInBounds_toArray, set_cons_zero, set_cons_succ]))
            | (refine tkU (i := 11) rfl rfl ?_; (simp only [Act.at, setIfInBounds_toArray, set_cons_zero, set_cons_succ]))
            first
            | (refine tkW (i := 12) (v := ?_) rfl rfl ?_ ?_; rotate_left; (focus (intro w hSw; (try dsimp only at hSw); go_simp; (try simp only [hmd, hkd, hkn, if_true, if_false, Result.andThen_ok]); first | done | with_reducible rfl)); (simp only [Act.at, setIfInBounds_toArray, set_cons_zero, set_cons_succ]))
            | (refine tkU (i := 12) rfl rfl ?_; (simp only [Act.at, setIfInBounds_toArray, set_cons_zero, set_cons_succ]))
            first
            | (refine tkW (i := 13) (v := ?_) rfl rfl ?_ ?_; rotate_left; (focus (intro w hSw; (try dsimp only at hSw); go_simp; (try simp only [hmd, hkd, hkn, if_true, if_false, Result.andThen_ok]); first | done | with_reducible rfl)); (simp only [Act.at, setIfInBounds_toArray, set_cons_zero, set_cons_succ]))
            | (refine tkU (i := 13) rfl rfl ?_; (simp only [Act.at, setIfInBounds_toArray, set_cons_zero, set_cons_succ]))
            first
            | (refine tkW (i := 14) (v := ?_) rfl rfl ?_ ?_; rotate_left; (focus (intro w hSw; (try dsimp only at hSw); go_simp; (try simp only [hmd, hkd, hkn, if_true, if_false, Result.andThen_ok]); first | done | with_reducible rfl)); (simp only [Act.at, setIfInBounds_toArray, set_cons_zero, set_cons_succ]))
            | (refine tkU (i := 14) rfl rfl ?_; (simp only [Act.at, setIfInBounds_toArray, set_cons_zero, set_cons_succ]))
            first
            | (refine tkW (i := 15) (v := ?_) rfl rfl ?_ ?_; rotate_left; (focus (intro w hSw; (try dsimp only at hSw); go_simp; (try simp only [hmd, hkd, hkn, if_true, if_false, Result.andThen_ok]); first | done | with_reducible rfl)); (simp only [Act.at, setIfInBounds_toArray, set_cons_zero, set_cons_succ]))
            | (refine tkU (i := 15) rfl rfl ?_; (simp only [Act.at, setIfInBounds_toArray, set_cons_zero, set_cons_succ]))
            first
            | (refine tkW (i := 16) (v := ?_) rfl rfl ?_ ?_; rotate_left; (focus (intro w hSw; (try dsimp only at hSw); go_simp; (try simp only [hmd, hkd, hkn, if_true, if_false, Result.andThen_ok]); first | done | with_reducible rfl)); (simp only [Act.at, setIfInBounds_toArray, set_cons_zero, set_cons_succ]))
            | (refine tkU (i := 16) rfl rfl ?_; (simp only [Act.at, setIfInBounds_toArray, set_cons_zero, set_cons_succ]))
            first
            | (refine tkW (i := 17) (v := ?_) rfl rfl ?_ ?_; rotate_left; (focus (intro w hSw; (try dsimp only at hSw); go_simp; (try simp only [hmd, hkd, hkn, if_true, if_false, Result.andThen_ok]); first | done | with_reducible rfl)); (simp only [Act.at, setIfInBounds_toArray, set_cons_zero, set_cons_succ]))
            | (refine tkU (i := 17) rfl rfl ?_; (simp only [Act.at, setIfInBounds_toArray, set_cons_zero, set_cons_succ]))
            first
            | (refine tkW (i := 18) (v := ?_) rfl rfl ?_ ?_; rotate_left; (focus (intro w hSw; (try dsimp only at hSw); go_simp; (try simp only [hmd, hkd, hkn, if_true, if_false, Result.andThen_ok]); first | done | with_reducible rfl)); (simp only [Act.at, setIfInBounds_toArray, set_cons_zero, set_cons_succ]))
            | (refine tkU (i := 18) rfl rfl ?_; (simp only [Act.at, setIfInBounds_toArray, set_cons_zero, set_cons_succ]))
            first
            | (refine tkW (i := 19) (v := ?_) rfl rfl ?_ ?_; rotate_left; (focus (intro w hSw; (try dsimp only at hSw); go_simp; (try simp only [hmd, hkd, hkn, if_true, if_false, Result.andThen_ok]); first | done | with_reducible rfl)); (simp only [Act.at, setIfInBounds_toArray, set_cons_zero, set_cons_succ]))
            | (refine tkU (i := 19) rfl rfl ?_; (simp only [Act.at, setIfInBounds_toArray, set_cons_zero, set_cons_succ]))
            first
            | (refine tkW (i := 20) (v := ?_) rfl rfl ?_ ?_; rotate_left; (focus (intro w hSw; (try dsimp only at hSw); go_simp; (try simp only [hmd, hkd, hkn, if_true, if_false, Result.andThen_ok]); first | done | with_reducible rfl)); (simp only [Act.at, setIfInBounds_toArray, set_cons_zero, set_cons_succ]))
            | (refine tkU (i := 20) rfl rfl ?_; (simp only [Act.at, setIfInBounds_toArray, set_cons_zero, set_cons_succ]))
            first
            | (refine tkW (i := 21) (v := ?_) rfl rfl ?_ ?_; rotate_left; (focus (intro w hSw; (try dsimp only at hSw); go_simp; (try simp only [hmd, hkd, hkn, if_true, if_false, Result.andThen_ok]); first | done | with_reducible rfl)); (simp only [Act.at, setIfInBounds_toArray, set_cons_zero, set_cons_succ]))
            | (refine tkU (i := 21) rfl rfl ?_; (simp only [Act.at, setIfInBounds_toArray, set_cons_zero, set_cons_succ]))
            first
            | (refine tkW (i := 22) (v := ?_) rfl rfl ?_ ?_; rotate_left; (focus (intro w hSw; (try dsimp only at hSw); go_simp; (try simp only [hmd, hkd, hkn, if_true, if_false, Result.andThen_ok]); first | done | with_reducible rfl)); (simp only [Act.at, setIfInBounds_toArray, set_cons_zero, set_cons_succ]))
            | (refine tkU (i := 22) rfl rfl ?_; (simp only [Act.at, setIfInBounds_toArray, set_cons_zero, set_cons_succ]))
            first
            | (refine tkW (i := 23) (v := ?_) rfl rfl ?_ ?_; rotate_left; (focus (intro w hSw; (try dsimp only at hSw); go_simp; (try simp only [hmd, hkd, hkn, if_true, if_false, Result.andThen_ok]); first | done | with_reducible rfl)); (simp only [Act.at, setIfInBounds_toArray, set_cons_zero, set_cons_succ]))
            | (refine tkU (i := 23) rfl rfl ?_; (simp only [Act.at, setIfInBounds_toArray, set_cons_zero, set_cons_succ]))
            first
            | (refine tkW (i := 24) (v := ?_) rfl rfl ?_ ?_; rotate_left; (focus (intro w hSw; (try dsimp only at hSw); go_simp; (try simp only [hmd, hkd, hkn, if_true, if_false, Result.andThen_ok]); first | done | with_reducible rfl)); (simp only [Act.at, setIfInBounds_toArray, set_cons_zero, set_cons_succ]))
            | (refine tkU (i := 24) rfl rfl ?_; (simp only [Act.at, setIfInBounds_toArray, set_cons_zero, set_cons_succ]))
            first
            | (refine tkW (i := 25) (v := ?_) rfl rfl ?_ ?_; rotate_left; (focus (intro w hSw; (try dsimp only at hSw); go_simp; (try simp only [hmd, hkd, hkn, if_true, if_false, Result.andThen_ok]); first | done | with_reducible rfl)); (simp only [Act.at, setIfInBounds_toArray, set_cons_zero, set_cons_succ]))
            | (refine tkU (i := 25) rfl rfl ?_; (simp only [Act.at, setIfInBounds_toArray, set_cons_zero, set_cons_succ]))
            first
            | (refine tkW (i := 26) (v := ?_) rfl rfl ?_ ?_; rotate_left; (focus (intro w hSw; (try dsimp only at hSw); go_simp; (try simp only [hmd, hkd, hkn, if_true, if_false, Result.andThen_ok]); first | done | with_reducible rfl)); (simp only [Act.at, setIfInBounds_toArray, set_cons_zero, set_cons_succ]))
            | (refine tkU (i := 26) rfl rfl ?_; (simp only [Act.at, setIfInBounds_toArray, set_cons_zero, set_cons_succ]))
            first
            | (refine tkW (i := 27) (v := ?_) rfl rfl ?_ ?_; rotate_left; (focus (intro w hSw; (try dsimp only at hSw); go_simp; (try simp only [hmd, hkd, hkn, if_true, if_false, Result.andThen_ok]); first | done | with_reducible rfl)); (simp only [Act.at, setIfInBounds_toArray, set_cons_zero, set_cons_succ]))
            | (refine tkU (i := 27) rfl rfl ?_; (simp only [Act.at, setIfInBounds_toArray, set_cons_zero, set_cons_succ]))
            refine wpAnyH_done (by kernel_rfl) ?_ _
            go_wp2_with fail
            go_ret
            exact ⟨rfl, HBD.out⟩
          · have hr := HRR.out
            rw [if_neg (by rintro (h | h); exact absurd h (by omega); exact hls (of_decide_eq_true h))] at hr
            subst hr
            clear HRR
            first
            | (refine tkW (i := 0) (v := ?_) rfl rfl ?_ ?_; rotate_left; (focus (intro w hSw; (try dsimp only at hSw); go_simp; (try simp only [hmd, hkd, hkn, if_true, if_false, Result.andThen_ok]); first | done | with_reducible rfl)); (simp only [Act.at, setIfInBounds_toArray, set_cons_zero, set_cons_succ]))
            | (refine tkU (i := 0) rfl rfl ?_; (simp only [Act.at, setIfInBounds_toArray, set_cons_zero, set_cons_succ]))
            first
            | (refine tkW (i := 1) (v := ?_) rfl rfl ?_ ?_; rotate_left; (focus (intro w hSw; (try dsimp only at hSw); go_simp; (try simp only [hmd, hkd, hkn, if_true, if_false, Result.andThen_ok]); first | done | with_reducible rfl)); (simp only [Act.at, setIfInBounds_toArray, set_cons_zero, set_cons_succ]))
            | (refine tkU (i := 1) rfl rfl ?_; (simp only [Act.at, setIfInBounds_toArray, set_cons_zero, set_cons_succ]))
            first
            | (refine tkW (i := 2) (v := ?_) rfl rfl ?_ ?_; rotate_left; (focus (intro w hSw; (try dsimp only at hSw); go_simp; (try simp only [hmd, hkd, hkn, if_true, if_false, Result.andThen_ok]); first | done | with_reducible rfl)); (simp only [Act.at, setIfInBounds_toArray, set_cons_zero, set_cons_succ]))
            | (refine tkU (i := 2) rfl rfl ?_; (simp only [Act.at, setIfInBounds_toArray, set_cons_zero, set_cons_succ]))
            first
            | (refine tkW (i := 3) (v := ?_) rfl rfl ?_ ?_; rotate_left; (focus (intro w hSw; (try dsimp only at hSw); go_simp; (try simp only [hmd, hkd, hkn, if_true, if_false, Result.andThen_ok]); first | done | with_reducible rfl)); (simp only [Act.at, setIfInBounds_toArray, set_cons_zero, set_cons_succ]))
            | (refine tkU (i := 3) rfl rfl ?_; (simp only [Act.at, setIfInBounds_toArray, set_cons_zero, set_cons_succ]))
            first
            | (refine tkW (i := 4) (v := ?_) rfl rfl ?_ ?_; rotate_left; (focus (intro w hSw; (try dsimp only at hSw); go_simp; (try simp only [hmd, hkd, hkn, if_true, if_false, Result.andThen_ok]); first | done | with_reducible rfl)); (simp only [Act.at, setIfInBounds_toArray, set_cons_zero, set_cons_succ]))
            | (refine tkU (i := 4) rfl rfl ?_; (simp only [Act.at, setIfInBounds_toArray, set_cons_zero, set_cons_succ]))
            first
            | (refine tkW (i := 5) (v := ?_) rfl rfl ?_ ?_; rotate_left; (focus (intro w hSw; (try dsimp only at hSw); go_simp; (try simp only [hmd, hkd, hkn, if_true, if_false, Result.andThen_ok]); first | done | with_reducible rfl)); (simp only [Act.at, setIfInBounds_toArray, set_cons_zero, set_cons_succ]))
            | (refine tkU (i := 5) rfl rfl ?_; (simp only [Act.at, setIfInBounds_toArray, set_cons_zero, set_cons_succ]))
            first
            | (refine tkW (i := 6) (v := ?_) rfl rfl ?_ ?_; rotate_left; (focus (intro w hSw; (try dsimp only at hSw); go_simp; (try simp only [hmd, hkd, hkn, if_true, if_false, Result.andThen_ok]); first | done | with_reducible rfl)); (simp only [Act.at, setIfInBounds_toArray, set_cons_zero, set_cons_succ]))
            | (refine tkU (i := 6) rfl rfl ?_; (simp only [Act.at, setIfInBounds_toArray, set_cons_zero, set_cons_succ]))
            first
            | (refine tkW (i := 7) (v := ?_) rfl rfl ?_ ?_; rotate_left; (focus (intro w hSw; (try dsimp only at hSw); go_simp; (try simp only [hmd, hkd, hkn, if_true, if_false, Result.andThen_ok]); first | done | with_reducible rfl)); (simp only [Act.at, setIfInBounds_toArray, set_cons_zero, set_cons_succ]))
            | (refine tkU (i := 7) rfl rfl ?_; (simp only [Act.at, setIfInBounds_toArray, set_cons_zero, set_cons_succ]))
            first
            | (refine tkW (i := 8) (v := ?_) rfl rfl ?_ ?_; rotate_left; (focus (intro w hSw; (try dsimp only at hSw); go_simp; (try simp only [hmd, hkd, hkn, if_true, if_false, Result.andThen_ok]); first | done | with_reducible rfl)); (simp only [Act.at, setIfInBounds_toArray, set_cons_zero, set_cons_succ]))
            | (refine tkU (i := 8) rfl rfl ?_; (simp only [Act.at, setIfInBounds_toArray, set_cons_zero, set_cons_succ]))
            first
            | (refine tkW (i := 9) (v := ?_) rfl rfl ?_ ?_; rotate_left; (focus (intro w hSw; (try dsimp only at hSw); go_simp; (try simp only [hmd, hkd, hkn, if_true, if_false, Result.andThen_ok]); first | done | with_reducible rfl)); (simp only [Act.at, setIfInBounds_toArray, set_cons_zero, set_cons_succ]))
            | (refine tkU (i := 9) rfl rfl ?_; (simp only [Act.at, setIfInBounds_toArray, set_cons_zero, set_cons_succ]))
            first
            | (refine tkW (i := 10) (v := ?_) rfl rfl ?_ ?_; rotate_left; (focus (intro w hSw; (try dsimp only at hSw); go_simp; (try simp only [hmd, hkd, hkn, if_true, if_false, Result.andThen_ok]); first | done | with_reducible rfl)); (simp only [Act.at, setIfInBounds_toArray, set_cons_zero, set_cons_succ]))
            | (refine tkU (i := 10) rfl rfl ?_; (simp only [Act.at, setIfInBounds_toArray, set_cons_zero, set_cons_succ]))
            first
            | (refine tkW (i := 11) (v := ?_) rfl rfl ?_ ?_; rotate_left; (focus (intro w hSw; (try dsimp only at hSw); go_simp; (try simp only [hmd, hkd, hkn, if_true, if_false, Result.andThen_ok]); first | done | with_reducible rfl)); (simp only [Act.at, setIfInBounds_toArray, set_cons_zero, set_cons_succ]))
            | (refine tkU (i := 11) rfl rfl ?_; (simp only [Act.at, setIfInBounds_toArray, set_cons_zero, set_cons_succ]))
            first
            | (refine tkW (i := 12) (v := ?_) rfl rfl ?_ ?_; rotate_left; (focus (intro w hSw; (try dsimp only at hSw); go_simp; (try simp only [hmd, hkd, hkn, if_true, if_false, Result.andThen_ok]); first | done | with_reducible rfl)); (simp only [Act.at, setIfInBounds_toArray, set_cons_zero, set_cons_succ]))
            | (refine tkU (i := 12) rfl rfl ?_; (simp only [Act.at, setIfInBounds_toArray, set_cons_zero, set_cons_succ]))
            first
            | (refine tkW (i := 13) (v := ?_) rfl rfl ?_ ?_; rotate_left; (focus (intro w hSw; (try dsimp only at hSw); go_simp; (try simp only [hmd, hkd, hkn, if_true, if_false, Result.andThen_ok]); first | done | with_reducible rfl)); (simp only [Act.at, setIfInBounds_toArray, set_cons_zero, set_cons_succ]))
            | (refine tkU (i := 13) rfl rfl ?_; (simp only [Act.at, setIfInBounds_toArray, set_cons_zero, set_cons_succ]))
            first
            | (refine tkW (i := 14) (v := ?_) rfl rfl ?_ ?_; rotate_left; (focus (intro w hSw; (try dsimp only at hSw); go_simp; (try simp only [hmd, hkd, hkn, if_true, if_false, Result.andThen_ok]); first | done | with_reducible rfl)); (simp only [Act.at, setIfInBounds_toArray, set_cons_zero, set_cons_succ]))
            | (refine tkU (i := 14) rfl rfl ?_; (simp only [Act.at, setIfInBounds_toArray, set_cons_zero, set_cons_succ]))
            first
            | (refine tkW (i := 15) (v := ?_) rfl rfl ?_ ?_; rotate_left; (focus (intro w hSw; (try dsimp only at hSw); go_simp; (try simp only [hmd, hkd, hkn, if_true, if_false, Result.andThen_ok]); first | done | with_reducible rfl)); (simp only [Act.at, setIfInBounds_toArray, set_cons_zero, set_cons_succ]))
            | (refine tkU (i := 15) rfl rfl ?_; (simp only [Act.at, setIfInBounds_toArray, set_cons_zero, set_cons_succ]))
            first
            | (refine tkW (i := 16) (v := ?_) rfl rfl ?_ ?_; rotate_left; (focus (intro w hSw; (try dsimp only at hSw); go_simp; (try simp only [hmd, hkd, hkn, if_true, if_false, Result.andThen_ok]); first | done | with_reducible rfl)); (simp only [Act.at, setIfInBounds_toArray, set_cons_zero, set_cons_succ]))
            | (refine tkU (i := 16) rfl rfl ?_; (simp only [Act.at, setIfInBounds_toArray, set_cons_zero, set_cons_succ]))
            first
            | (refine tkW (i := 17) (v := ?_) rfl rfl ?_ ?_; rotate_left; (focus (intro w hSw; (try dsimp only at hSw); go_simp; (try simp only [hmd, hkd, hkn, if_true, if_false, Result.andThen_ok]); first | done | with_reducible rfl)); (simp only [Act.at, setIfInBounds_toArray, set_cons_zero, set_cons_succ]))
            | (refine tkU (i := 17) rfl rfl ?_; (simp only [Act.at, setIfInBounds_toArray, set_cons_zero, set_cons_succ]))
            first
            | (refine tkW (i := 18) (v := ?_) rfl rfl ?_ ?_; rotate_left; (focus (intro w hSw; (try dsimp only at hSw); go_simp; (try simp only [hmd, hkd, hkn, if_true, if_false, Result.andThen_ok]); first | done | with_reducible rfl)); (simp only [Act.at, setIfInBounds_toArray, set_cons_zero, set_cons_succ]))
            | (refine tkU (i := 18) rfl rfl ?_; (simp only [Act.at, setIfInBounds_toArray, set_cons_zero, set_cons_succ]))
            first
            | (refine tkW (i := 19) (v := ?_) rfl rfl ?_ ?_; rotate_left; (focus (intro w hSw; (try dsimp only at hSw); go_simp; (try simp only [hmd, hkd, hkn, if_true, if_false, Result.andThen_ok]); first | done | with_reducible rfl)); (simp only [Act.at, setIfInBounds_toArray, set_cons_zero, set_cons_succ]))
            | (refine tkU (i := 19) rfl rfl ?_; (simp only [Act.at, setIfInBounds_toArray, set_cons_zero, set_cons_succ]))
            first
            | (refine tkW (i := 20) (v := ?_) rfl rfl ?_ ?_; rotate_left; (focus (intro w hSw; (try dsimp only at hSw); go_simp; (try simp only [hmd, hkd, hkn, if_true, if_false, Result.andThen_ok]); first | done | with_reducible rfl)); (simp only [Act.at, setIfInBounds_toArray, set_cons_zero, set_cons_succ]))
            | (refine tkU (i := 20) rfl rfl ?_; (simp only [Act.at, setIfInBounds_toArray, set_cons_zero, set_cons_succ]))
            first
            | (refine tkW (i := 21) (v := ?_) rfl rfl ?_ ?_; rotate_left; (focus (intro w hSw; (try dsimp only at hSw); go_simp; (try simp only [hmd, hkd, hkn, if_true, if_false, Result.andThen_ok]); first | done | with_reducible rfl)); (simp only [Act.at, setIfInBounds_toArray, set_cons_zero, set_cons_succ]))
            | (refine tkU (i := 21) rfl rfl ?_; (simp only [Act.at, setIfInBounds_toArray, set_cons_zero, set_cons_succ]))
            first
            | (refine tkW (i := 22) (v := ?_) rfl rfl ?_ ?_; rotate_left; (focus (intro w hSw; (try dsimp only at hSw); go_simp; (try simp only [hmd, hkd, hkn, if_true, if_false, Result.andThen_ok]); first | done | with_reducible rfl)); (simp only [Act.at, setIfInBounds_toArray, set_cons_zero, set_cons_succ]))
            | (refine tkU (i := 22) rfl rfl ?_; (simp only [Act.at, setIfInBounds_toArray, set_cons_zero, set_cons_succ]))
            first
            | (refine tkW (i := 23) (v := ?_) rfl rfl ?_ ?_; rotate_left; (focus (intro w hSw; (try dsimp only at hSw); go_simp; (try simp only [hmd, hkd, hkn, if_true, if_false, Result.andThen_ok]); first | done | with_reducible rfl)); (simp only [Act.at, setIfInBounds_toArray, set_cons_zero, set_cons_succ]))
            | (refine tkU (i := 23) rfl rfl ?_; (simp only [Act.at, setIfInBounds_toArray, set_cons_zero, set_cons_succ]))
            first
            | (refine tkW (i := 24) (v := ?_) rfl rfl ?_ ?_; rotate_left; (focus (intro w hSw; (try dsimp only at hSw); go_simp; (try simp only [hmd, hkd, hkn, if_true, if_false, Result.andThen_ok]); first | done | with_reducible rfl)); (simp only [Act.at, setIfInBounds_toArray, set_cons_zero, set_cons_succ]))
            | (refine tkU (i := 24) rfl rfl ?_; (simp only [Act.at, setIfInBounds_toArray, set_cons_zero, set_cons_succ]))
            first
            | (refine tkW (i := 25) (v := ?_) rfl rfl ?_ ?_; rotate_left; (focus (intro w hSw; (try dsimp only at hSw); go_simp; (try simp only [hmd, hkd, hkn, if_true, if_false, Result.andThen_ok]); first | done | with_reducible rfl)); (simp only [Act.at, setIfInBounds_toArray, set_cons_zero, set_cons_succ]))
            | (refine tkU (i := 25) rfl rfl ?_; (simp only [Act.at, setIfInBounds_toArray, set_cons_zero, set_cons_succ]))
            first
            | (refine tkW (i := 26) (v := ?_) rfl rfl ?_ ?_; rotate_left; (focus (intro w hSw; (try dsimp only at hSw); go_simp; (try simp only [hmd, hkd, hkn, if_true, if_false, Result.andThen_ok]); first | done | with_reducible rfl)); (simp only [Act.at, setIfInBounds_toArray, set_cons_zero, set_cons_succ]))
            | (refine tkU (i := 26) rfl rfl ?_; (simp only [Act.at, setIfInBounds_toArray, set_cons_zero, set_cons_succ]))
            first
            | (refine tkW (i := 27) (v := ?_) rfl rfl ?_ ?_; rotate_left; (focus (intro w hSw; (try dsimp only at hSw); go_simp; (try simp only [hmd, hkd, hkn, if_true, if_false, Result.andThen_ok]); first | done | with_reducible rfl)); (simp only [Act.at, setIfInBounds_toArray, set_cons_zero, set_cons_succ]))
            | (refine tkU (i := 27) rfl rfl ?_; (simp only [Act.at, setIfInBounds_toArray, set_cons_zero, set_cons_succ]))
            refine wpAnyH_done (by kernel_rfl) ?_ _
            go_wp2_with fail
            go_ret
            exact ⟨rfl, HBD.out⟩
    have n6 : (kind == 6) = false := by rw [beq_eq_false_iff_ne]; exact k6
    by_cases k7 : kind = 7
    · have hr := HR.out.2.2.2.1 rfl k7
      subst k7
      have HRR := Lib.hid hr
      clear HR hr HCH HMP HX HQX
      go_upto_region 15 with fail
      go_quiet (fail)
      have HBQ : Hid (Below w.heap.size w (w1.drewN nq)) := Lib.hid (HB1.out.trans ⟨rfl, rfl, rfl, Nat.le_refl _, fun _ _ => rfl⟩)
      by_cases hlt : now < st.now
      · have hr := HRR.out
        rw [if_pos hlt] at hr
        subst hr
        go_wp2_with fail
        go_ret
        exact ⟨rfl, HBQ.out⟩
      · have hr := HRR.out
        rw [if_neg hlt] at hr
        subst hr
        go_wp2_with fail
        go_ret
        exact ⟨rfl, HBQ.out⟩
    have n7 : (kind == 7) = false := by rw [beq_eq_false_iff_ne]; exact k7
    obtain ⟨hr, hs0, hi0⟩ := HR.out.2.2.2.2 rfl k1 k6 k7
    have HRR := Lib.hid hr
    clear HR hr HQX
    go_upto_region 4 with fail
    go_quiet (fail)
    have HBQ : Hid (Below w.heap.size w (w1.drewN nq)) := Lib.hid (HB1.out.trans ⟨rfl, rfl, rfl, Nat.le_refl _, fun _ _ => rfl⟩)
    by_cases hle : (M.length : Int) ≤ seq
    · have hr := HRR.out
      rw [if_pos hle] at hr
      subst hr
      clear HRR HCH
      go_wp2_with fail
      go_ret
      exact ⟨rfl, HBQ.out⟩
    · have hr := HRR.out
      rw [if_neg hle] at hr
      obtain ⟨k, rfl⟩ : ∃ k : Nat, seq = (k : Int) := ⟨seq.toNat, by omega⟩
      have hk : k < M.length := by omega
      rw [Int.toNat_natCast, (HMP.out k hk).2] at hr
      obtain ⟨be, hA, hbl, hx⟩ := HX.out k hk
      subst hA
      have HC2 := Lib.hid (fun (W : World) (hb : Below w1.heap.size w1 W) => HCH.out W M[k] ((hxin.out M[k] (List.getElem_mem hk)).below hb) (HEN.out _ (HMP.out k hk).1) hi0)
      have hki : (k : Int) < (M.length : Int) := by omega
      have hkc : (k : Int) < (pca : Int) := by omega
      have hk0 : (0 : Int) ≤ (k : Int) := by omega
      generalize M[k]'hk = x at hx HC2 hr
      obtain ⟨⟨xid, xcls, xborn, xslot, xL, xgone, xH⟩, xA, xca, xB, xcb⟩ := x
      obtain ⟨e0, e1, e2, e3, e4, e5, e6⟩ := hx
      dsimp only at e0 e1 e2 e3 e4 e5 e6 HC2
      have HRX := Lib.hid hr
      generalize Sta.changeC _ _ = rc at HC2 HRX
      have hres := HRX.out
      subst hres
      have HLT3 : Hid (b0 < w1.heap.size ∧ p < w1.heap.size ∧ be < w1.heap.size) := Lib.hid ⟨hblt1, HPLT.out, hbl⟩
      clear hr HRR HCH HMP HX HEN hxin HRX hk hbl
      have HBQ1 : Hid (Below w1.heap.size w1 (w1.drewN nq)) := Lib.hid ⟨rfl, rfl, rfl, Nat.le_refl _, fun _ _ => rfl⟩
      go_upto_region 6 with fail
      have hS : RdC b0 p be M.length pca k kind id cls born slot L.length gone H.length idx name size root now A ca B cb xid xcls xborn xslot xA xL.length xca xgone xB xH.length xcb (w1.drewN nq).drew := ⟨p0, ⟨y0, y1, y2, y3, y4, y5, y6, y7, y8, y9, y10, y11, y12, y13⟩, e0, e1, e2, e3, e4, e5, e6⟩
      have HBD := Lib.hid HBQ.out.drew
      have HBD1 := Lib.hid HBQ1.out.drew
      clear y0 y1 y2 y3 y4 y5 y6 y7 y8 y9 y10 y11 y12 y13 p0 p1 p2 e0 e1 e2 e3 e4 e5 e6 HBQ HBQ1
      refine wp_region_held_drew (S := RdC b0 p be M.length pca k kind id cls born slot L.length gone H.length idx name size root now A ca B cb xid xcls xborn xslot xA xL.length xca xgone xB xH.length xcb) (by kernel_rfl) hS (fun hHeld => ?_)
      generalize (w1.drewN nq).drew = wd at hS hHeld HBD HBD1 ⊢
      first
      | (refine tkW (i := 0) (v := ?_) rfl rfl ?_ ?_; rotate_left; (focus (intro w hSw; (try dsimp only at hSw); go_simp; first | done | with_reducible rfl)); (simp only [Act.at, setIfInBounds_toArray, set_cons_zero, set_cons_succ]))
      | (refine tkU (i := 0) rfl rfl ?_; (simp only [Act.at, setIfInBounds_toArray, set_cons_zero, set_cons_succ]))
      first
      | (refine tkW (i := 1) (v := ?_) rfl rfl ?_ ?_; rotate_left; (focus (intro w hSw; (try dsimp only at hSw); go_simp; first | done | with_reducible rfl)); (simp only [Act.at, setIfInBounds_toArray, set_cons_zero, set_cons_succ]))
      | (refine tkU (i := 1) rfl rfl ?_; (simp only [Act.at, setIfInBounds_toArray, set_cons_zero, set_cons_succ]))
      first
      | (refine tkW (i := 2) (v := ?_) rfl rfl ?_ ?_; rotate_left; (focus (intro w hSw; (try dsimp only at hSw); go_simp; first | done | with_reducible rfl)); (simp only [Act.at, setIfInBounds_toArray, set_cons_zero, set_cons_succ]))
      | (refine tkU (i := 2) rfl rfl ?_; (simp only [Act.at, setIfInBounds_toArray, set_cons_zero, set_cons_succ]))
      first
      | (refine tkW (i := 3) (v := ?_) rfl rfl ?_ ?_; rotate_left; (focus (intro w hSw; (try dsimp only at hSw); go_simp; first | done | with_reducible rfl)); (simp only [Act.at, setIfInBounds_toArray, set_cons_zero, set_cons_succ]))
      | (refine tkU (i := 3) rfl rfl ?_; (simp only [Act.at, setIfInBounds_toArray, set_cons_zero, set_cons_succ]))
      first
      | (refine tkW (i := 4) (v := ?_) rfl rfl ?_ ?_; rotate_left; (focus (intro w hSw; (try dsimp only at hSw); go_simp; first | done | with_reducible rfl)); (simp only [Act.at, setIfInBounds_toArray, set_cons_zero, set_cons_succ]))
      | (refine tkU (i := 4) rfl rfl ?_; (simp only [Act.at, setIfInBounds_toArray, set_cons_zero, set_cons_succ]))
      first
      | (refine tkW (i := 5) (v := ?_) rfl rfl ?_ ?_; rotate_left; (focus (intro w hSw; (try dsimp only at hSw); go_simp; first | done | with_reducible rfl)); (simp only [Act.at, setIfInBounds_toArray, set_cons_zero, set_cons_succ]))
      | (refine tkU (i := 5) rfl rfl ?_; (simp only [Act.at, setIfInBounds_toArray, set_cons_zero, set_cons_succ]))
      first
      | (refine tkW (i := 6) (v := ?_) rfl rfl ?_ ?_; rotate_left; (focus (intro w hSw; (try dsimp only at hSw); go_simp; first | done | with_reducible rfl)); (simp only [Act.at, setIfInBounds_toArray, set_cons_zero, set_cons_succ]))
      | (refine tkU (i := 6) rfl rfl ?_; (simp only [Act.at, setIfInBounds_toArray, set_cons_zero, set_cons_succ]))
      first
      | (refine tkW (i := 7) (v := ?_) rfl rfl ?_ ?_; rotate_left; (focus (intro w hSw; (try dsimp only at hSw); go_simp; first | done | with_reducible rfl)); (simp only [Act.at, setIfInBounds_toArray, set_cons_zero, set_cons_succ]))
      | (refine tkU (i := 7) rfl rfl ?_; (simp only [Act.at, setIfInBounds_toArray, set_cons_zero, set_cons_succ]))
      first
      | (refine tkW (i := 8) (v := ?_) rfl rfl ?_ ?_; rotate_left; (focus (intro w hSw; (try dsimp only at hSw); go_simp; first | done | with_reducible rfl)); (simp only [Act.at, setIfInBounds_toArray, set_cons_zero, set_cons_succ]))
      | (refine tkU (i := 8) rfl rfl ?_; (simp only [Act.at, setIfInBounds_toArray, set_cons_zero, set_cons_succ]))
      refine take_call (i := 9) (by kernel_rfl) rfl rfl (by rfl) (fun K hK => ?_)
      go_simp
      refine (HC2.out wd HBD1.out).mono ?_
      rintro r w2 ⟨rfl, hb2⟩
      have hS2 := RdC.below hS hb2 (Nat.lt_of_lt_of_le HLT3.out.1 HBD1.out.size) (Nat.lt_of_lt_of_le HLT3.out.2.1 HBD1.out.size) (Nat.lt_of_lt_of_le HLT3.out.2.2 HBD1.out.size)
      have HB2 := Lib.hid (HBD.out.trans (hb2.mono HBD.out.size))
      clear hb2 hS hHeld HBD HBD1 HC2
      refine hK.out _ _ hS2 (fun hHeld => ?_)
      clear hK K
      try simp only [Act.put, setIfInBounds_toArray, set_cons_zero, set_cons_succ]
      first
      | (refine tkW (i := 10) (v := ?_) rfl rfl ?_ ?_; rotate_left; (focus (intro w hSw; (try dsimp only at hSw); go_simp; first | done | with_reducible rfl)); (simp only [Act.at, setIfInBounds_toArray, set_cons_zero, set_cons_succ]))
      | (refine tkU (i := 10) rfl rfl ?_; (simp only [Act.at, setIfInBounds_toArray, set_cons_zero, set_cons_succ]))
      refine wpAnyH_done (by kernel_rfl) ?_ _
      go_wp2_with fail
      go_ret
      exact ⟨rfl, HB2.out⟩
end Go.Proofs.Ytojemaaljjibiaa
