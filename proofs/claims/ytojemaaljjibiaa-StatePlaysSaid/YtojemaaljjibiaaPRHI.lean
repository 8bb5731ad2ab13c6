/-
  RHI: the texts StaRH, StaRI in one.
-/
import Derived.Test.YtojemaaljjibiaaPRFG
import Derived.Test.YtojemaaljjibiaaPStaThree
import Derived.Test.YtojemaaljjibiaaPStaTwo
open List (setIfInBounds_toArray set_cons_zero set_cons_succ)
namespace Go.Proofs.Ytojemaaljjibiaa
open Go.RowKit
set_option linter.unusedVariables false

theorem RefAt.frz {w : World} {p : Nat} {s ot : List Nat} {M : List EntX} {Q : List Pt} {now : Int} (h : RefAt w p s ot M Q now) {be n c : Nat} (hb : w.cell? ⟨p, 0, none⟩ = some (.slice (some ⟨be, 0, none⟩) n c)) (i : Nat) : w.frozen? ⟨be, i, none⟩ = false := by
  obtain ⟨A, ca, B, cb, h1, h2, _, _⟩ := h.ex
  have hc0 : w.cell? ⟨p, 0, none⟩ = some (.slice A M.length ca) := h1.cell 0
  rw [hb] at hc0
  injection hc0 with hc
  injection hc with hA _ _
  subst hA
  rcases h2.2 with ⟨e1, _⟩ | ⟨g, cap, cur, e1, _, hg, _⟩
  · cases e1
  · injection e1 with e1 _ _
    injection e1 with e1
    injection e1 with e1
    subst e1
    exact Has.free (cs := cur) hg i
theorem map_modify {M : List EntX} {P : List Ent} (hM : M.map EntX.e = P) {k : Nat} (hk : k < M.length) (y : EntX) (f : Ent → Ent) (hy : y.e = f (M[k]).e) : (M.set k y).map EntX.e = P.modify k f := by
  subst hM
  apply List.ext_getElem?
  intro j
  rw [List.getElem?_map, List.getElem?_set, Sta.get_modify, List.getElem?_map]
  by_cases hj : k = j
  · subst hj
    rw [if_pos rfl, if_pos hk, if_pos rfl, List.getElem?_eq_getElem hk]
    simp [hy]
  · rw [if_neg hj, if_neg hj]
theorem modify_modify {α : Type} (P : List α) (k : Nat) (f g : α → α) : (P.modify k f).modify k g = P.modify k (fun e => g (f e)) := by
  apply List.ext_getElem?
  intro j
  rw [List.getElem?_modify, List.getElem?_modify, List.getElem?_modify]
  cases P[j]? with
  | none => simp
  | some e => by_cases h : k = j <;> simp [h]
/-- What Apply reads ahead of its store. -/
abbrev SetS (kind : Int) (id : List UInt8) (cls born slot : Int) (n : Nat) (gone : Bool) (m : Nat) (seq idx : Int) (name : List UInt8) (size : Int) (root : List UInt8) (now : Int) (b : Nat) (A : Option Addr) (ca : Nat) (B : Option Addr) (cb : Nat) (p be pn pca : Nat) (W : World) : Prop :=
  EvBoxC kind id cls born slot n gone m seq idx name size root now b A ca B cb W ∧ W.cell? ⟨p, 0, none⟩ = some (.slice (some ⟨be, 0, none⟩) pn pca)
theorem SetS.of {kind : Int} {id : List UInt8} {cls born slot : Int} {n : Nat} {gone : Bool} {m : Nat} {seq idx : Int} {name : List UInt8} {size : Int} {root : List UInt8} {now : Int} {b : Nat} {A : Option Addr} {ca : Nat} {B : Option Addr} {cb p be pn pca : Nat} {w w' : World} (h : SetS kind id cls born slot n gone m seq idx name size root now b A ca B cb p be pn pca w) (hb : w'.heap[b]? = w.heap[b]?) (hp : w'.heap[p]? = w.heap[p]?) : SetS kind id cls born slot n gone m seq idx name size root now b A ca B cb p be pn pca w' := by
  have ck : ∀ {g : Nat} (hg : w'.heap[g]? = w.heap[g]?) (i : Nat) (x : Value), w.cell? ⟨g, i, none⟩ = some x → w'.cell? ⟨g, i, none⟩ = some x := fun hg i x hx => by
    rw [← hx]
    simp only [World.cell?, hg]
  obtain ⟨⟨h0, h1, h2, h3, h4, h5, h6, h7, h8, h9, h10, h11, h12, h13⟩, hq⟩ := h
  exact ⟨⟨ck hb _ _ h0, ck hb _ _ h1, ck hb _ _ h2, ck hb _ _ h3, ck hb _ _ h4, ck hb _ _ h5, ck hb _ _ h6, ck hb _ _ h7, ck hb _ _ h8, ck hb _ _ h9, ck hb _ _ h10, ck hb _ _ h11, ck hb _ _ h12, ck hb _ _ h13⟩, ck hp _ _ hq⟩
/-- A cell of a paper is written. -/
theorem RBox.setk {w W : World} {p b0 : Nat} {s ot : List Nat} {M : List EntX} {Q : List Pt} {now : Int} {v : Evt} {A : Option Addr} {ca : Nat} {B : Option Addr} {cb : Nat} (h : RBox w p b0 s ot M Q now v A ca B cb W) {k : Nat} (hk : k < M.length) {b : Nat} {ca0 : Nat} (hb : W.cell? ⟨p, 0, none⟩ = some (.slice (some ⟨b, 0, none⟩) M.length ca0)) (j : Nat) (hj : j < 7) (u : Value) (y : EntX) (hy : y.cs = M[k].cs.set j u) (hin : XIn W ((p :: s) ++ ot) y) :
    RBox w p b0 s ot (M.set k y) Q now v A ca B cb (W.setCell ⟨b, k * 7 + j, none⟩ u) ∧ b ≠ b0 ∧ b ≠ p := by
  obtain ⟨h1, h2⟩ := h.ref.setk hk hb j hj u y hy hin
  have hbs : b ∈ s := by
    obtain ⟨A', ca', B', cb', q1, _, _, q4⟩ := h.ref.ex
    have hc0 : W.cell? ⟨p, 0, none⟩ = some (.slice A' M.length ca') := q1.cell 0
    rw [hb] at hc0
    injection hc0 with hc
    injection hc with hA _ _
    subst hA
    rw [q4]
    exact List.mem_append.2 (Or.inl (List.mem_singleton.2 rfl))
  have hb0 : b ≠ b0 := fun e => h.bn (List.mem_cons_of_mem _ (e ▸ hbs))
  have hbp : b ≠ p := fun e => (List.nodup_cons.1 h.ref.nd).1 (e ▸ hbs)
  have hh : (W.setCell ⟨b, k * 7 + j, none⟩ u).heap[b0]? = W.heap[b0]? := Below.heap_setCell W ⟨b, k * 7 + j, none⟩ u b0 (fun e => hb0 e.symm)
  have ck : ∀ (i : Nat) (x : Value), W.cell? ⟨b0, i, none⟩ = some x → (W.setCell ⟨b, k * 7 + j, none⟩ u).cell? ⟨b0, i, none⟩ = some x := fun i x hx => by
    rw [← hx]
    simp only [World.cell?, hh]
  obtain ⟨y0, y1, y2, y3, y4, y5, y6, y7, y8, y9, y10, y11, y12, y13⟩ := h.bx
  refine ⟨⟨h1, h.mv.trans h2, ⟨ck _ _ y0, ck _ _ y1, ck _ _ y2, ck _ _ y3, ck _ _ y4, ck _ _ y5, ck _ _ y6, ck _ _ y7, ck _ _ y8, ck _ _ y9, ck _ _ y10, ck _ _ y11, ck _ _ y12, ck _ _ y13⟩, h.bn, Nat.lt_of_lt_of_le h.lt h2.size, h.ent.mv h2 (fun z hz => List.mem_append_left ot hz)⟩, hb0, hbp⟩
set_option maxRecDepth 100000 in
set_option maxHeartbeats 8000000 in
theorem rapply2_any {w : World} {p : Nat} {s ot : List Nat} {st : Sta} (h : RefS w p s ot st) {v : Evt} {A B : Option Addr} {ca cb : Nat} (hin : EntIn w ((p :: s) ++ ot) v.ent A ca B cb) (hk : v.kind = 2) {k : Nat} (hsq : v.seq = (k : Int)) (hkl : k < st.P.length) (hsl : ∀ e ∈ st.P, e.L.length ≤ 1000) :
    Calls Try.prog 14 #[.pointer (some ⟨p, 0, none⟩), v.val A ca B cb] w fun r w' => r = .returned (.tuple #[]) ∧ RStep w p s ot { st with P := st.P.modify k fun e => { e with L := Sta.erS e.L v.idx } } w' := by
  obtain ⟨M, hM, hra⟩ := h
  have hbx := RBox.mk0 hra hin
  unfold Evt.val
  clear hin hra
  obtain ⟨kind, ⟨id, cls, born, slot, L, gone, H⟩, seq, idx, name, size, root, now⟩ := v
  dsimp only at *
  subst hk
  subst hsq
  go_enter Try.func14, Try.ntmps14
  go_upto_region 1 with fail
  generalize w.alloc (.cells #[.int .i64 2, .string (S id), .int .i64 cls, .int .i64 born, .int .i64 slot, .slice A L.length ca, .bool gone, .slice B H.length cb, .int .i64 (k : Int), .int .i64 idx, .string (S name), .int .i64 size, .string (S root), .int .i64 now] 37) = W0 at hbx ⊢
  generalize w.heap.size = b0 at hbx ⊢
  have HM := Lib.hid hM
  have HBX := Lib.hid hbx
  obtain ⟨y0, y1, y2, y3, y4, y5, y6, y7, y8, y9, y10, y11, y12, y13⟩ := hbx.bx
  clear hM hbx
  have HLS := Lib.hid hsl
  have HKL := Lib.hid hkl
  clear hsl hkl
  go_upto_region 6 with fail
  clear y0 y1 y2 y3 y4 y5 y6 y7 y8 y9 y10 y11 y12 y13
  have hsl := HLS.out
  have hkl := HKL.out
  have hkm : k < M.length := by have := congrArg List.length HM.out; rw [List.length_map] at this; omega
  have hkl7 := hsl _ (by rw [← HM.out]; exact List.mem_map_of_mem (List.getElem_mem hkm))
  clear hsl hkl HLS HKL
  have HKM := Lib.hid hkm
  have HBD0 := Lib.hid HBX.out.drew
  clear HBX
  obtain ⟨PA, pca, PB, pcb, r1, r2, -, -, r5, -⟩ := HBD0.out.ref.reads
  obtain ⟨be, hPA, hbe, hat⟩ := r5 k HKM.out
  subst hPA
  obtain ⟨x, hx⟩ : ∃ x, M[k]'HKM.out = x := ⟨_, rfl⟩
  have HXI : Hid (XIn W0.drew ((p :: s) ++ ot) x) := Lib.hid (hx ▸ HBD0.out.ref.ents _ (List.getElem_mem HKM.out))
  rw [hx] at hat hkl7
  have HXK : Hid (∀ h : k < M.length, M[k] = x) := Lib.hid (fun _ => hx)
  have HPC : Hid (W0.drew.cell? ⟨p, 0, none⟩ = some (.slice (some ⟨be, 0, none⟩) M.length pca)) := Lib.hid (r1.cell 0)
  have hS : SetS 2 id cls born slot L.length gone H.length (k : Int) idx name size root now b0 A ca B cb p be M.length pca W0.drew := ⟨HBD0.out.bx, HPC.out⟩
  have HSL : Hid (W0.drew.cell? ⟨be, k * 7 + 4, none⟩ = some (.slice x.A x.e.L.length x.ca)) := Lib.hid hat.2.2.2.2.1
  have HCL := Lib.hid (rslips_any (w := W0.drew) (L := x.e.L) (A := x.A) (ca := x.ca) (HXI.out.rl.sub (by simp)) HXI.out.la hkl7 idx)
  have HBD := Lib.hid HBD0.out
  have HBE := Lib.hid hbe
  have hkM : (k : Int) < (M.length : Int) := by have := HKM.out; omega
  have hkc : (k : Int) < (pca : Int) := by have := HKM.out; omega
  clear hat r1 r2 r5 hbe HBD0 hx hkm hkl7
  refine wp_region_held_drew (S := SetS 2 id cls born slot L.length gone H.length (k : Int) idx name size root now b0 A ca B cb p be M.length pca) (by kernel_rfl) hS (fun hHeld => ?_)
  generalize W0.drew = wd at hS hHeld HSL HCL HBD HXI HPC HBE ⊢
  have HAFT : Hid (∀ (w1 : World) (A' : Option Addr) (ca' : Nat), Below wd.heap.size wd w1 → RowC w1 ((p :: s) ++ ot) A' (svs (Sta.erS x.e.L idx)) → x.e.L.length ≤ ca' → ca' ≤ maxLen →
      (w1.cell? ⟨be, k * 7 + 4, none⟩ = some (.slice x.A x.e.L.length x.ca) ∧ w1.frozen? ⟨be, k * 7 + 4, none⟩ = false) ∧ (SetS 2 id cls born slot L.length gone H.length (k : Int) idx name size root now b0 A ca B cb p be M.length pca w1) ∧ (SetS 2 id cls born slot L.length gone H.length (k : Int) idx name size root now b0 A ca B cb p be M.length pca (w1.setCell ⟨be, k * 7 + 4, none⟩ (.slice A' x.e.L.length ca'))) ∧ RStep w p s ot { st with P := st.P.modify k fun e => { e with L := Sta.erS e.L idx } } (w1.setCell ⟨be, k * 7 + 4, none⟩ (.slice A' x.e.L.length ca'))) := Lib.hid (fun w1 A' ca' hb1 hrow hle hmx => by
    have hbd1 := HBD.out.mv' hb1
    have hpc1 : w1.cell? ⟨p, 0, none⟩ = some (.slice (some ⟨be, 0, none⟩) M.length pca) := (hb1.cell (p := ⟨p, 0, none⟩) HBD.out.ref.lt.1).trans HPC.out
    have hs1 := SetS.of hS (hb1.block b0 HBD.out.lt) (hb1.block p HBD.out.ref.lt.1)
    have hxi1 := HXI.out.below hb1
    have hxk := HXK.out HKM.out
    obtain ⟨q1, q2, q3⟩ := hbd1.setk HKM.out hpc1 4 (by decide) (.slice A' x.e.L.length ca') ⟨{ x.e with L := Sta.erS x.e.L idx }, A', ca', x.B, x.cb⟩ (by rw [hxk]; unfold EntX.cs Ent.cs; dsimp only; rw [Sta.erS_len]; rfl) ⟨hrow, hxi1.rh, by rw [Sta.erS_len]; exact hle, by simpa only [maxLen] using hmx, hxi1.lb, hxi1.mb⟩
    refine ⟨⟨(hb1.cell (p := ⟨be, k * 7 + 4, none⟩) HBE.out).trans HSL.out, hbd1.ref.frz hpc1 _⟩, hs1, SetS.of hs1 (Below.heap_setCell w1 ⟨be, k * 7 + 4, none⟩ _ b0 (fun e => q2 e.symm)) (Below.heap_setCell w1 ⟨be, k * 7 + 4, none⟩ _ p (fun e => q3 e.symm)), ?_⟩
    exact RefS.step q1.ref (map_modify HM.out HKM.out _ _ (by rw [hxk])) rfl rfl q1.mv (fun y hy => Or.inl hy))
  have HSLT : Hid (∀ y ∈ (p :: s) ++ ot, y < wd.heap.size) := Lib.hid (fun y hy => by
    rcases List.mem_append.1 hy with hy | hy
    · rcases List.mem_cons.1 hy with rfl | hy
      · exact HBD.out.ref.lt.1
      · exact HBD.out.ref.lt.2 _ hy
    · exact HBD.out.ref.ul _ hy)
  first
  | (refine tkW (i := 0) (v := ?_) rfl rfl ?_ ?_; rotate_left; (focus (intro w hSw; (try dsimp only at hSw); go_simp; first | done | with_reducible rfl)); (simp only [Act.at, setIfInBounds_toArray, set_cons_zero, set_cons_succ]))
  | (refine tkU (i := 0) rfl rfl ?_; (simp only [Act.at, setIfInBounds_toArray, set_cons_zero, set_cons_succ]))
  first
  | (refine tkW (i := 1) (v := ?_) rfl rfl ?_ ?_; rotate_left; (focus (intro w hSw; (try dsimp only at hSw); go_simp; first | done | with_reducible rfl)); (simp only [Act.at, setIfInBounds_toArray, set_cons_zero, set_cons_succ]))
  | (refine tkU (i := 1) rfl rfl ?_; (simp only [Act.at, setIfInBounds_toArray, set_cons_zero, set_cons_succ]))
  first
  | (refine tkW (i := 2) (v := ?_) rfl rfl ?_ ?_; rotate_left; (focus (intro w hSw; (try dsimp only at hSw); go_simp; first | done | with_reducible rfl)); (simp only [Act.at, setIfInBounds_toArray, set_cons_zero, set_cons_succ]))
  | (refine tkU (i := 2) rfl rfl ?_; (simp only [Act.at, setIfInBounds_toArray, set_cons_zero, set_cons_succ]))
  first
  | (refine tkW (i := 3) (v := ?_) rfl rfl ?_ ?_; rotate_left; (focus (intro w hSw; (try dsimp only at hSw); go_simp; first | done | with_reducible rfl)); (simp only [Act.at, setIfInBounds_toArray, set_cons_zero, set_cons_succ]))
  | (refine tkU (i := 3) rfl rfl ?_; (simp only [Act.at, setIfInBounds_toArray, set_cons_zero, set_cons_succ]))
  first
  | (refine tkW (i := 4) (v := ?_) rfl rfl ?_ ?_; rotate_left; (focus (intro w hSw; (try dsimp only at hSw); go_simp; first | done | with_reducible rfl)); (simp only [Act.at, setIfInBounds_toArray, set_cons_zero, set_cons_succ]))
  | (refine tkU (i := 4) rfl rfl ?_; (simp only [Act.at, setIfInBounds_toArray, set_cons_zero, set_cons_succ]))
  first
  | (refine tkW (i := 5) (v := ?_) rfl rfl ?_ ?_; rotate_left; (focus (intro w hSw; (try dsimp only at hSw); go_simp; first | done | with_reducible rfl)); (simp only [Act.at, setIfInBounds_toArray, set_cons_zero, set_cons_succ]))
  | (refine tkU (i := 5) rfl rfl ?_; (simp only [Act.at, setIfInBounds_toArray, set_cons_zero, set_cons_succ]))
  first
  | (refine tkW (i := 6) (v := ?_) rfl rfl ?_ ?_; rotate_left; (focus (intro w hSw; (try dsimp only at hSw); go_simp; first | done | with_reducible rfl)); (simp only [Act.at, setIfInBounds_toArray, set_cons_zero, set_cons_succ]))
  | (refine tkU (i := 6) rfl rfl ?_; (simp only [Act.at, setIfInBounds_toArray, set_cons_zero, set_cons_succ]))
  first
  | (refine tkW (i := 7) (v := ?_) rfl rfl ?_ ?_; rotate_left; (focus (intro w hSw; (try dsimp only at hSw); go_simp; first | done | with_reducible rfl)); (simp only [Act.at, setIfInBounds_toArray, set_cons_zero, set_cons_succ]))
  | (refine tkU (i := 7) rfl rfl ?_; (simp only [Act.at, setIfInBounds_toArray, set_cons_zero, set_cons_succ]))
  first
  | (refine tkW (i := 8) (v := ?_) rfl rfl ?_ ?_; rotate_left; (focus (intro w hSw; (try dsimp only at hSw); go_simp; first | done | with_reducible rfl)); (simp only [Act.at, setIfInBounds_toArray, set_cons_zero, set_cons_succ]))
  | (refine tkU (i := 8) rfl rfl ?_; (simp only [Act.at, setIfInBounds_toArray, set_cons_zero, set_cons_succ]))
  first
  | (refine tkW (i := 9) (v := ?_) rfl rfl ?_ ?_; rotate_left; (focus (intro w hSw; (try dsimp only at hSw); go_simp; first | done | with_reducible rfl)); (simp only [Act.at, setIfInBounds_toArray, set_cons_zero, set_cons_succ]))
  | (refine tkU (i := 9) rfl rfl ?_; (simp only [Act.at, setIfInBounds_toArray, set_cons_zero, set_cons_succ]))
  first
  | (refine tkW (i := 10) (v := ?_) rfl rfl ?_ ?_; rotate_left; (focus (intro w hSw; (try dsimp only at hSw); go_simp; first | done | with_reducible rfl)); (simp only [Act.at, setIfInBounds_toArray, set_cons_zero, set_cons_succ]))
  | (refine tkU (i := 10) rfl rfl ?_; (simp only [Act.at, setIfInBounds_toArray, set_cons_zero, set_cons_succ]))
  first
  | (refine tkW (i := 11) (v := ?_) rfl rfl ?_ ?_; rotate_left; (focus (intro w hSw; (try dsimp only at hSw); go_simp; first | done | with_reducible rfl)); (simp only [Act.at, setIfInBounds_toArray, set_cons_zero, set_cons_succ]))
  | (refine tkU (i := 11) rfl rfl ?_; (simp only [Act.at, setIfInBounds_toArray, set_cons_zero, set_cons_succ]))
  first
  | (refine tkW (i := 12) (v := ?_) rfl rfl ?_ ?_; rotate_left; (focus (intro w hSw; (try dsimp only at hSw); go_simp; first | done | with_reducible rfl)); (simp only [Act.at, setIfInBounds_toArray, set_cons_zero, set_cons_succ]))
  | (refine tkU (i := 12) rfl rfl ?_; (simp only [Act.at, setIfInBounds_toArray, set_cons_zero, set_cons_succ]))
  first
  | (refine tkW (i := 13) (v := ?_) rfl rfl ?_ ?_; rotate_left; (focus (intro w hSw; (try dsimp only at hSw); go_simp; first | done | with_reducible rfl)); (simp only [Act.at, setIfInBounds_toArray, set_cons_zero, set_cons_succ]))
  | (refine tkU (i := 13) rfl rfl ?_; (simp only [Act.at, setIfInBounds_toArray, set_cons_zero, set_cons_succ]))
  first
  | (refine tkW (i := 15) (v := ?_) rfl rfl ?_ ?_; rotate_left; (focus (intro w hSw; (try dsimp only at hSw); go_simp; first | done | with_reducible rfl)); (simp only [Act.at, setIfInBounds_toArray, set_cons_zero, set_cons_succ]))
  | (refine tkU (i := 15) rfl rfl ?_; (simp only [Act.at, setIfInBounds_toArray, set_cons_zero, set_cons_succ]))
  first
  | (refine tkW (i := 16) (v := ?_) rfl rfl ?_ ?_; rotate_left; (focus (intro w hSw; (try dsimp only at hSw); go_simp; first | done | with_reducible rfl)); (simp only [Act.at, setIfInBounds_toArray, set_cons_zero, set_cons_succ]))
  | (refine tkU (i := 16) rfl rfl ?_; (simp only [Act.at, setIfInBounds_toArray, set_cons_zero, set_cons_succ]))
  refine takeOne (i := 14) (by kernel_rfl) rfl (by rfl) (fun K hK => ?_)
  have hsl := HSL.out
  go_simp
  refine hK.out _ _ hS (fun hHeld => ?_)
  clear hK K
  try simp only [Act.put, setIfInBounds_toArray, set_cons_zero, set_cons_succ]
  clear hsl
  refine takeOne (i := 17) (by kernel_rfl) rfl (by rfl) (fun K hK => ?_)
  go_simp
  refine HCL.out.mono ?_
  rintro r w1 ⟨u, rfl, hown, hb1⟩
  obtain ⟨A', ca', rfl, hle, hmx, -, -, hrow⟩ := own_rowC (s := (p :: s) ++ ot) hown HSLT.out (by decide)
  obtain ⟨⟨hsl1, hfr1⟩, hS1, hS2, hfin⟩ := HAFT.out w1 A' ca' hb1 hrow hle hmx
  have HFIN := Lib.hid hfin
  clear hown hb1 hle hmx hrow hfin HAFT
  refine hK.out _ _ hS1 (fun hHeld => ?_)
  clear hK K
  try simp only [Act.put, setIfInBounds_toArray, set_cons_zero, set_cons_succ]
  try simp only [Act.at, setIfInBounds_toArray, set_cons_zero, set_cons_succ]
  first
  | (refine tkW (i := 18) (v := ?_) rfl rfl ?_ ?_; rotate_left; (focus (intro w hSw; (try dsimp only at hSw); go_simp; first | done | with_reducible rfl)); (simp only [Act.at, setIfInBounds_toArray, set_cons_zero, set_cons_succ]))
  | (refine tkU (i := 18) rfl rfl ?_; (simp only [Act.at, setIfInBounds_toArray, set_cons_zero, set_cons_succ]))
  first
  | (refine tkW (i := 19) (v := ?_) rfl rfl ?_ ?_; rotate_left; (focus (intro w hSw; (try dsimp only at hSw); go_simp; first | done | with_reducible rfl)); (simp only [Act.at, setIfInBounds_toArray, set_cons_zero, set_cons_succ]))
  | (refine tkU (i := 19) rfl rfl ?_; (simp only [Act.at, setIfInBounds_toArray, set_cons_zero, set_cons_succ]))
  refine takeOne (i := 20) (by kernel_rfl) rfl (by rfl) (fun K hK => ?_)
  go_simp
  refine hK.out _ _ hS2 (fun hHeld => ?_)
  clear hK K
  try simp only [Act.put, setIfInBounds_toArray, set_cons_zero, set_cons_succ]
  refine wpAnyH_done (by kernel_rfl) ?_ _
  clear hsl1 hfr1 hS1 hS2
  go_wp2_with fail
  go_returns
  exact ⟨rfl, HFIN.out⟩
set_option maxRecDepth 100000 in
set_option maxHeartbeats 8000000 in
theorem rapply4_any {w : World} {p : Nat} {s ot : List Nat} {st : Sta} (h : RefS w p s ot st) {v : Evt} {A B : Option Addr} {ca cb : Nat} (hin : EntIn w ((p :: s) ++ ot) v.ent A ca B cb) (hk : v.kind = 4) {k : Nat} (hsq : v.seq = (k : Int)) (hkl : k < st.P.length) (hsl : ∀ e ∈ st.P, e.H.length ≤ 1000) :
    Calls Try.prog 14 #[.pointer (some ⟨p, 0, none⟩), v.val A ca B cb] w fun r w' => r = .returned (.tuple #[]) ∧ RStep w p s ot { st with P := st.P.modify k fun e => { e with H := Sta.hW e.H v.name true } } w' := by
  obtain ⟨M, hM, hra⟩ := h
  have hbx := RBox.mk0 hra hin
  unfold Evt.val
  clear hin hra
  obtain ⟨kind, ⟨id, cls, born, slot, L, gone, H⟩, seq, idx, name, size, root, now⟩ := v
  dsimp only at *
  subst hk
  subst hsq
  go_enter Try.func14, Try.ntmps14
  go_upto_region 1 with fail
  generalize w.alloc (.cells #[.int .i64 4, .string (S id), .int .i64 cls, .int .i64 born, .int .i64 slot, .slice A L.length ca, .bool gone, .slice B H.length cb, .int .i64 (k : Int), .int .i64 idx, .string (S name), .int .i64 size, .string (S root), .int .i64 now] 37) = W0 at hbx ⊢
  generalize w.heap.size = b0 at hbx ⊢
  have HM := Lib.hid hM
  have HBX := Lib.hid hbx
  obtain ⟨y0, y1, y2, y3, y4, y5, y6, y7, y8, y9, y10, y11, y12, y13⟩ := hbx.bx
  clear hM hbx
  have HLS := Lib.hid hsl
  have HKL := Lib.hid hkl
  clear hsl hkl
  go_upto_region 12 with fail
  clear y0 y1 y2 y3 y4 y5 y6 y7 y8 y9 y10 y11 y12 y13
  have hsl := HLS.out
  have hkl := HKL.out
  have hkm : k < M.length := by have := congrArg List.length HM.out; rw [List.length_map] at this; omega
  have hkl7 := hsl _ (by rw [← HM.out]; exact List.mem_map_of_mem (List.getElem_mem hkm))
  clear hsl hkl HLS HKL
  have HKM := Lib.hid hkm
  have HBD0 := Lib.hid HBX.out.drew
  clear HBX
  obtain ⟨PA, pca, PB, pcb, r1, r2, -, -, r5, -⟩ := HBD0.out.ref.reads
  obtain ⟨be, hPA, hbe, hat⟩ := r5 k HKM.out
  subst hPA
  obtain ⟨x, hx⟩ : ∃ x, M[k]'HKM.out = x := ⟨_, rfl⟩
  have HXI : Hid (XIn W0.drew ((p :: s) ++ ot) x) := Lib.hid (hx ▸ HBD0.out.ref.ents _ (List.getElem_mem HKM.out))
  rw [hx] at hat hkl7
  have HXK : Hid (∀ h : k < M.length, M[k] = x) := Lib.hid (fun _ => hx)
  have HPC : Hid (W0.drew.cell? ⟨p, 0, none⟩ = some (.slice (some ⟨be, 0, none⟩) M.length pca)) := Lib.hid (r1.cell 0)
  have hS : SetS 4 id cls born slot L.length gone H.length (k : Int) idx name size root now b0 A ca B cb p be M.length pca W0.drew := ⟨HBD0.out.bx, HPC.out⟩
  have HSL : Hid (W0.drew.cell? ⟨be, k * 7 + 6, none⟩ = some (.slice x.B x.e.H.length x.cb)) := Lib.hid hat.2.2.2.2.2.2
  have HCL := Lib.hid (rholds_any (w := W0.drew) (H := x.e.H) (A := x.B) (ca := x.cb) (HXI.out.rh.sub (by simp)) HXI.out.lb hkl7 name true)
  have HBD := Lib.hid HBD0.out
  have HBE := Lib.hid hbe
  have hkM : (k : Int) < (M.length : Int) := by have := HKM.out; omega
  have hkc : (k : Int) < (pca : Int) := by have := HKM.out; omega
  clear hat r1 r2 r5 hbe HBD0 hx hkm hkl7
  refine wp_region_held_drew (S := SetS 4 id cls born slot L.length gone H.length (k : Int) idx name size root now b0 A ca B cb p be M.length pca) (by kernel_rfl) hS (fun hHeld => ?_)
  generalize W0.drew = wd at hS hHeld HSL HCL HBD HXI HPC HBE ⊢
  have HAFT : Hid (∀ (w1 : World) (A' : Option Addr) (ca' : Nat), Below wd.heap.size wd w1 → RowC w1 ((p :: s) ++ ot) A' (tvs (Sta.hW x.e.H name true)) → (Sta.hW x.e.H name true).length ≤ ca' → ca' ≤ maxLen →
      (w1.cell? ⟨be, k * 7 + 6, none⟩ = some (.slice x.B x.e.H.length x.cb) ∧ w1.frozen? ⟨be, k * 7 + 6, none⟩ = false) ∧ (SetS 4 id cls born slot L.length gone H.length (k : Int) idx name size root now b0 A ca B cb p be M.length pca w1) ∧ (SetS 4 id cls born slot L.length gone H.length (k : Int) idx name size root now b0 A ca B cb p be M.length pca (w1.setCell ⟨be, k * 7 + 6, none⟩ (.slice A' (Sta.hW x.e.H name true).length ca'))) ∧ RStep w p s ot { st with P := st.P.modify k fun e => { e with H := Sta.hW e.H name true } } (w1.setCell ⟨be, k * 7 + 6, none⟩ (.slice A' (Sta.hW x.e.H name true).length ca'))) := Lib.hid (fun w1 A' ca' hb1 hrow hle hmx => by
    have hbd1 := HBD.out.mv' hb1
    have hpc1 : w1.cell? ⟨p, 0, none⟩ = some (.slice (some ⟨be, 0, none⟩) M.length pca) := (hb1.cell (p := ⟨p, 0, none⟩) HBD.out.ref.lt.1).trans HPC.out
    have hs1 := SetS.of hS (hb1.block b0 HBD.out.lt) (hb1.block p HBD.out.ref.lt.1)
    have hxi1 := HXI.out.below hb1
    have hxk := HXK.out HKM.out
    obtain ⟨q1, q2, q3⟩ := hbd1.setk HKM.out hpc1 6 (by decide) (.slice A' (Sta.hW x.e.H name true).length ca') ⟨{ x.e with H := Sta.hW x.e.H name true }, x.A, x.ca, A', ca'⟩ (by rw [hxk]; unfold EntX.cs Ent.cs; dsimp only; rfl) ⟨hxi1.rl, hrow, hxi1.la, hxi1.ma, hle, by simpa only [maxLen] using hmx⟩
    refine ⟨⟨(hb1.cell (p := ⟨be, k * 7 + 6, none⟩) HBE.out).trans HSL.out, hbd1.ref.frz hpc1 _⟩, hs1, SetS.of hs1 (Below.heap_setCell w1 ⟨be, k * 7 + 6, none⟩ _ b0 (fun e => q2 e.symm)) (Below.heap_setCell w1 ⟨be, k * 7 + 6, none⟩ _ p (fun e => q3 e.symm)), ?_⟩
    exact RefS.step q1.ref (map_modify HM.out HKM.out _ _ (by rw [hxk])) rfl rfl q1.mv (fun y hy => Or.inl hy))
  have HSLT : Hid (∀ y ∈ (p :: s) ++ ot, y < wd.heap.size) := Lib.hid (fun y hy => by
    rcases List.mem_append.1 hy with hy | hy
    · rcases List.mem_cons.1 hy with rfl | hy
      · exact HBD.out.ref.lt.1
      · exact HBD.out.ref.lt.2 _ hy
    · exact HBD.out.ref.ul _ hy)
  first
  | (refine tkW (i := 0) (v := ?_) rfl rfl ?_ ?_; rotate_left; (focus (intro w hSw; (try dsimp only at hSw); go_simp; first | done | with_reducible rfl)); (simp only [Act.at, setIfInBounds_toArray, set_cons_zero, set_cons_succ]))
  | (refine tkU (i := 0) rfl rfl ?_; (simp only [Act.at, setIfInBounds_toArray, set_cons_zero, set_cons_succ]))
  first
  | (refine tkW (i := 1) (v := ?_) rfl rfl ?_ ?_; rotate_left; (focus (intro w hSw; (try dsimp only at hSw); go_simp; first | done | with_reducible rfl)); (simp only [Act.at, setIfInBounds_toArray, set_cons_zero, set_cons_succ]))
  | (refine tkU (i := 1) rfl rfl ?_; (simp only [Act.at, setIfInBounds_toArray, set_cons_zero, set_cons_succ]))
  first
  | (refine tkW (i := 2) (v := ?_) rfl rfl ?_ ?_; rotate_left; (focus (intro w hSw; (try dsimp only at hSw); go_simp; first | done | with_reducible rfl)); (simp only [Act.at, setIfInBounds_toArray, set_cons_zero, set_cons_succ]))
  | (refine tkU (i := 2) rfl rfl ?_; (simp only [Act.at, setIfInBounds_toArray, set_cons_zero, set_cons_succ]))
  first
  | (refine tkW (i := 3) (v := ?_) rfl rfl ?_ ?_; rotate_left; (focus (intro w hSw; (try dsimp only at hSw); go_simp; first | done | with_reducible rfl)); (simp only [Act.at, setIfInBounds_toArray, set_cons_zero, set_cons_succ]))
  | (refine tkU (i := 3) rfl rfl ?_; (simp only [Act.at, setIfInBounds_toArray, set_cons_zero, set_cons_succ]))
  first
  | (refine tkW (i := 4) (v := ?_) rfl rfl ?_ ?_; rotate_left; (focus (intro w hSw; (try dsimp only at hSw); go_simp; first | done | with_reducible rfl)); (simp only [Act.at, setIfInBounds_toArray, set_cons_zero, set_cons_succ]))
  | (refine tkU (i := 4) rfl rfl ?_; (simp only [Act.at, setIfInBounds_toArray, set_cons_zero, set_cons_succ]))
  first
  | (refine tkW (i := 5) (v := ?_) rfl rfl ?_ ?_; rotate_left; (focus (intro w hSw; (try dsimp only at hSw); go_simp; first | done | with_reducible rfl)); (simp only [Act.at, setIfInBounds_toArray, set_cons_zero, set_cons_succ]))
  | (refine tkU (i := 5) rfl rfl ?_; (simp only [Act.at, setIfInBounds_toArray, set_cons_zero, set_cons_succ]))
  first
  | (refine tkW (i := 6) (v := ?_) rfl rfl ?_ ?_; rotate_left; (focus (intro w hSw; (try dsimp only at hSw); go_simp; first | done | with_reducible rfl)); (simp only [Act.at, setIfInBounds_toArray, set_cons_zero, set_cons_succ]))
  | (refine tkU (i := 6) rfl rfl ?_; (simp only [Act.at, setIfInBounds_toArray, set_cons_zero, set_cons_succ]))
  first
  | (refine tkW (i := 7) (v := ?_) rfl rfl ?_ ?_; rotate_left; (focus (intro w hSw; (try dsimp only at hSw); go_simp; first | done | with_reducible rfl)); (simp only [Act.at, setIfInBounds_toArray, set_cons_zero, set_cons_succ]))
  | (refine tkU (i := 7) rfl rfl ?_; (simp only [Act.at, setIfInBounds_toArray, set_cons_zero, set_cons_succ]))
  first
  | (refine tkW (i := 8) (v := ?_) rfl rfl ?_ ?_; rotate_left; (focus (intro w hSw; (try dsimp only at hSw); go_simp; first | done | with_reducible rfl)); (simp only [Act.at, setIfInBounds_toArray, set_cons_zero, set_cons_succ]))
  | (refine tkU (i := 8) rfl rfl ?_; (simp only [Act.at, setIfInBounds_toArray, set_cons_zero, set_cons_succ]))
  first
  | (refine tkW (i := 9) (v := ?_) rfl rfl ?_ ?_; rotate_left; (focus (intro w hSw; (try dsimp only at hSw); go_simp; first | done | with_reducible rfl)); (simp only [Act.at, setIfInBounds_toArray, set_cons_zero, set_cons_succ]))
  | (refine tkU (i := 9) rfl rfl ?_; (simp only [Act.at, setIfInBounds_toArray, set_cons_zero, set_cons_succ]))
  first
  | (refine tkW (i := 10) (v := ?_) rfl rfl ?_ ?_; rotate_left; (focus (intro w hSw; (try dsimp only at hSw); go_simp; first | done | with_reducible rfl)); (simp only [Act.at, setIfInBounds_toArray, set_cons_zero, set_cons_succ]))
  | (refine tkU (i := 10) rfl rfl ?_; (simp only [Act.at, setIfInBounds_toArray, set_cons_zero, set_cons_succ]))
  first
  | (refine tkW (i := 11) (v := ?_) rfl rfl ?_ ?_; rotate_left; (focus (intro w hSw; (try dsimp only at hSw); go_simp; first | done | with_reducible rfl)); (simp only [Act.at, setIfInBounds_toArray, set_cons_zero, set_cons_succ]))
  | (refine tkU (i := 11) rfl rfl ?_; (simp only [Act.at, setIfInBounds_toArray, set_cons_zero, set_cons_succ]))
  first
  | (refine tkW (i := 12) (v := ?_) rfl rfl ?_ ?_; rotate_left; (focus (intro w hSw; (try dsimp only at hSw); go_simp; first | done | with_reducible rfl)); (simp only [Act.at, setIfInBounds_toArray, set_cons_zero, set_cons_succ]))
  | (refine tkU (i := 12) rfl rfl ?_; (simp only [Act.at, setIfInBounds_toArray, set_cons_zero, set_cons_succ]))
  first
  | (refine tkW (i := 13) (v := ?_) rfl rfl ?_ ?_; rotate_left; (focus (intro w hSw; (try dsimp only at hSw); go_simp; first | done | with_reducible rfl)); (simp only [Act.at, setIfInBounds_toArray, set_cons_zero, set_cons_succ]))
  | (refine tkU (i := 13) rfl rfl ?_; (simp only [Act.at, setIfInBounds_toArray, set_cons_zero, set_cons_succ]))
  first
  | (refine tkW (i := 15) (v := ?_) rfl rfl ?_ ?_; rotate_left; (focus (intro w hSw; (try dsimp only at hSw); go_simp; first | done | with_reducible rfl)); (simp only [Act.at, setIfInBounds_toArray, set_cons_zero, set_cons_succ]))
  | (refine tkU (i := 15) rfl rfl ?_; (simp only [Act.at, setIfInBounds_toArray, set_cons_zero, set_cons_succ]))
  first
  | (refine tkW (i := 16) (v := ?_) rfl rfl ?_ ?_; rotate_left; (focus (intro w hSw; (try dsimp only at hSw); go_simp; first | done | with_reducible rfl)); (simp only [Act.at, setIfInBounds_toArray, set_cons_zero, set_cons_succ]))
  | (refine tkU (i := 16) rfl rfl ?_; (simp only [Act.at, setIfInBounds_toArray, set_cons_zero, set_cons_succ]))
  first
  | (refine tkW (i := 17) (v := ?_) rfl rfl ?_ ?_; rotate_left; (focus (intro w hSw; (try dsimp only at hSw); go_simp; first | done | with_reducible rfl)); (simp only [Act.at, setIfInBounds_toArray, set_cons_zero, set_cons_succ]))
  | (refine tkU (i := 17) rfl rfl ?_; (simp only [Act.at, setIfInBounds_toArray, set_cons_zero, set_cons_succ]))
  first
  | (refine tkW (i := 18) (v := ?_) rfl rfl ?_ ?_; rotate_left; (focus (intro w hSw; (try dsimp only at hSw); go_simp; first | done | with_reducible rfl)); (simp only [Act.at, setIfInBounds_toArray, set_cons_zero, set_cons_succ]))
  | (refine tkU (i := 18) rfl rfl ?_; (simp only [Act.at, setIfInBounds_toArray, set_cons_zero, set_cons_succ]))
  first
  | (refine tkW (i := 19) (v := ?_) rfl rfl ?_ ?_; rotate_left; (focus (intro w hSw; (try dsimp only at hSw); go_simp; first | done | with_reducible rfl)); (simp only [Act.at, setIfInBounds_toArray, set_cons_zero, set_cons_succ]))
  | (refine tkU (i := 19) rfl rfl ?_; (simp only [Act.at, setIfInBounds_toArray, set_cons_zero, set_cons_succ]))
  refine takeOne (i := 14) (by kernel_rfl) rfl (by rfl) (fun K hK => ?_)
  have hsl := HSL.out
  go_simp
  refine hK.out _ _ hS (fun hHeld => ?_)
  clear hK K
  try simp only [Act.put, setIfInBounds_toArray, set_cons_zero, set_cons_succ]
  clear hsl
  refine takeOne (i := 20) (by kernel_rfl) rfl (by rfl) (fun K hK => ?_)
  go_simp
  refine HCL.out.mono ?_
  rintro r w1 ⟨u, rfl, hown, hb1⟩
  obtain ⟨A', ca', rfl, hle, hmx, -, -, hrow⟩ := own_rowC (s := (p :: s) ++ ot) hown HSLT.out (by decide)
  obtain ⟨⟨hsl1, hfr1⟩, hS1, hS2, hfin⟩ := HAFT.out w1 A' ca' hb1 hrow hle hmx
  have HFIN := Lib.hid hfin
  clear hown hb1 hle hmx hrow hfin HAFT
  refine hK.out _ _ hS1 (fun hHeld => ?_)
  clear hK K
  try simp only [Act.put, setIfInBounds_toArray, set_cons_zero, set_cons_succ]
  try simp only [Act.at, setIfInBounds_toArray, set_cons_zero, set_cons_succ]
  first
  | (refine tkW (i := 21) (v := ?_) rfl rfl ?_ ?_; rotate_left; (focus (intro w hSw; (try dsimp only at hSw); go_simp; first | done | with_reducible rfl)); (simp only [Act.at, setIfInBounds_toArray, set_cons_zero, set_cons_succ]))
  | (refine tkU (i := 21) rfl rfl ?_; (simp only [Act.at, setIfInBounds_toArray, set_cons_zero, set_cons_succ]))
  first
  | (refine tkW (i := 22) (v := ?_) rfl rfl ?_ ?_; rotate_left; (focus (intro w hSw; (try dsimp only at hSw); go_simp; first | done | with_reducible rfl)); (simp only [Act.at, setIfInBounds_toArray, set_cons_zero, set_cons_succ]))
  | (refine tkU (i := 22) rfl rfl ?_; (simp only [Act.at, setIfInBounds_toArray, set_cons_zero, set_cons_succ]))
  refine takeOne (i := 23) (by kernel_rfl) rfl (by rfl) (fun K hK => ?_)
  go_simp
  refine hK.out _ _ hS2 (fun hHeld => ?_)
  clear hK K
  try simp only [Act.put, setIfInBounds_toArray, set_cons_zero, set_cons_succ]
  refine wpAnyH_done (by kernel_rfl) ?_ _
  clear hsl1 hfr1 hS1 hS2
  go_wp2_with fail
  go_returns
  exact ⟨rfl, HFIN.out⟩
set_option maxRecDepth 100000 in
set_option maxHeartbeats 8000000 in
theorem rapply5_any {w : World} {p : Nat} {s ot : List Nat} {st : Sta} (h : RefS w p s ot st) {v : Evt} {A B : Option Addr} {ca cb : Nat} (hin : EntIn w ((p :: s) ++ ot) v.ent A ca B cb) (hk : v.kind = 5) {k : Nat} (hsq : v.seq = (k : Int)) (hkl : k < st.P.length) (hsl : ∀ e ∈ st.P, e.H.length ≤ 1000) :
    Calls Try.prog 14 #[.pointer (some ⟨p, 0, none⟩), v.val A ca B cb] w fun r w' => r = .returned (.tuple #[]) ∧ RStep w p s ot { st with P := st.P.modify k fun e => { e with H := Sta.hW e.H v.name false } } w' := by
  obtain ⟨M, hM, hra⟩ := h
  have hbx := RBox.mk0 hra hin
  unfold Evt.val
  clear hin hra
  obtain ⟨kind, ⟨id, cls, born, slot, L, gone, H⟩, seq, idx, name, size, root, now⟩ := v
  dsimp only at *
  subst hk
  subst hsq
  go_enter Try.func14, Try.ntmps14
  go_upto_region 1 with fail
  generalize w.alloc (.cells #[.int .i64 5, .string (S id), .int .i64 cls, .int .i64 born, .int .i64 slot, .slice A L.length ca, .bool gone, .slice B H.length cb, .int .i64 (k : Int), .int .i64 idx, .string (S name), .int .i64 size, .string (S root), .int .i64 now] 37) = W0 at hbx ⊢
  generalize w.heap.size = b0 at hbx ⊢
  have HM := Lib.hid hM
  have HBX := Lib.hid hbx
  obtain ⟨y0, y1, y2, y3, y4, y5, y6, y7, y8, y9, y10, y11, y12, y13⟩ := hbx.bx
  clear hM hbx
  have HLS := Lib.hid hsl
  have HKL := Lib.hid hkl
  clear hsl hkl
  go_upto_region 12 with fail
  clear y0 y1 y2 y3 y4 y5 y6 y7 y8 y9 y10 y11 y12 y13
  have hsl := HLS.out
  have hkl := HKL.out
  have hkm : k < M.length := by have := congrArg List.length HM.out; rw [List.length_map] at this; omega
  have hkl7 := hsl _ (by rw [← HM.out]; exact List.mem_map_of_mem (List.getElem_mem hkm))
  clear hsl hkl HLS HKL
  have HKM := Lib.hid hkm
  have HBD0 := Lib.hid HBX.out.drew
  clear HBX
  obtain ⟨PA, pca, PB, pcb, r1, r2, -, -, r5, -⟩ := HBD0.out.ref.reads
  obtain ⟨be, hPA, hbe, hat⟩ := r5 k HKM.out
  subst hPA
  obtain ⟨x, hx⟩ : ∃ x, M[k]'HKM.out = x := ⟨_, rfl⟩
  have HXI : Hid (XIn W0.drew ((p :: s) ++ ot) x) := Lib.hid (hx ▸ HBD0.out.ref.ents _ (List.getElem_mem HKM.out))
  rw [hx] at hat hkl7
  have HXK : Hid (∀ h : k < M.length, M[k] = x) := Lib.hid (fun _ => hx)
  have HPC : Hid (W0.drew.cell? ⟨p, 0, none⟩ = some (.slice (some ⟨be, 0, none⟩) M.length pca)) := Lib.hid (r1.cell 0)
  have hS : SetS 5 id cls born slot L.length gone H.length (k : Int) idx name size root now b0 A ca B cb p be M.length pca W0.drew := ⟨HBD0.out.bx, HPC.out⟩
  have HSL : Hid (W0.drew.cell? ⟨be, k * 7 + 6, none⟩ = some (.slice x.B x.e.H.length x.cb)) := Lib.hid hat.2.2.2.2.2.2
  have HCL := Lib.hid (rholds_any (w := W0.drew) (H := x.e.H) (A := x.B) (ca := x.cb) (HXI.out.rh.sub (by simp)) HXI.out.lb hkl7 name false)
  have HBD := Lib.hid HBD0.out
  have HBE := Lib.hid hbe
  have hkM : (k : Int) < (M.length : Int) := by have := HKM.out; omega
  have hkc : (k : Int) < (pca : Int) := by have := HKM.out; omega
  clear hat r1 r2 r5 hbe HBD0 hx hkm hkl7
  refine wp_region_held_drew (S := SetS 5 id cls born slot L.length gone H.length (k : Int) idx name size root now b0 A ca B cb p be M.length pca) (by kernel_rfl) hS (fun hHeld => ?_)
  generalize W0.drew = wd at hS hHeld HSL HCL HBD HXI HPC HBE ⊢
  have HAFT : Hid (∀ (w1 : World) (A' : Option Addr) (ca' : Nat), Below wd.heap.size wd w1 → RowC w1 ((p :: s) ++ ot) A' (tvs (Sta.hW x.e.H name false)) → (Sta.hW x.e.H name false).length ≤ ca' → ca' ≤ maxLen →
      (w1.cell? ⟨be, k * 7 + 6, none⟩ = some (.slice x.B x.e.H.length x.cb) ∧ w1.frozen? ⟨be, k * 7 + 6, none⟩ = false) ∧ (SetS 5 id cls born slot L.length gone H.length (k : Int) idx name size root now b0 A ca B cb p be M.length pca w1) ∧ (SetS 5 id cls born slot L.length gone H.length (k : Int) idx name size root now b0 A ca B cb p be M.length pca (w1.setCell ⟨be, k * 7 + 6, none⟩ (.slice A' (Sta.hW x.e.H name false).length ca'))) ∧ RStep w p s ot { st with P := st.P.modify k fun e => { e with H := Sta.hW e.H name false } } (w1.setCell ⟨be, k * 7 + 6, none⟩ (.slice A' (Sta.hW x.e.H name false).length ca'))) := Lib.hid (fun w1 A' ca' hb1 hrow hle hmx => by
    have hbd1 := HBD.out.mv' hb1
    have hpc1 : w1.cell? ⟨p, 0, none⟩ = some (.slice (some ⟨be, 0, none⟩) M.length pca) := (hb1.cell (p := ⟨p, 0, none⟩) HBD.out.ref.lt.1).trans HPC.out
    have hs1 := SetS.of hS (hb1.block b0 HBD.out.lt) (hb1.block p HBD.out.ref.lt.1)
    have hxi1 := HXI.out.below hb1
    have hxk := HXK.out HKM.out
    obtain ⟨q1, q2, q3⟩ := hbd1.setk HKM.out hpc1 6 (by decide) (.slice A' (Sta.hW x.e.H name false).length ca') ⟨{ x.e with H := Sta.hW x.e.H name false }, x.A, x.ca, A', ca'⟩ (by rw [hxk]; unfold EntX.cs Ent.cs; dsimp only; rfl) ⟨hxi1.rl, hrow, hxi1.la, hxi1.ma, hle, by simpa only [maxLen] using hmx⟩
    refine ⟨⟨(hb1.cell (p := ⟨be, k * 7 + 6, none⟩) HBE.out).trans HSL.out, hbd1.ref.frz hpc1 _⟩, hs1, SetS.of hs1 (Below.heap_setCell w1 ⟨be, k * 7 + 6, none⟩ _ b0 (fun e => q2 e.symm)) (Below.heap_setCell w1 ⟨be, k * 7 + 6, none⟩ _ p (fun e => q3 e.symm)), ?_⟩
    exact RefS.step q1.ref (map_modify HM.out HKM.out _ _ (by rw [hxk])) rfl rfl q1.mv (fun y hy => Or.inl hy))
  have HSLT : Hid (∀ y ∈ (p :: s) ++ ot, y < wd.heap.size) := Lib.hid (fun y hy => by
    rcases List.mem_append.1 hy with hy | hy
    · rcases List.mem_cons.1 hy with rfl | hy
      · exact HBD.out.ref.lt.1
      · exact HBD.out.ref.lt.2 _ hy
    · exact HBD.out.ref.ul _ hy)
  first
  | (refine tkW (i := 0) (v := ?_) rfl rfl ?_ ?_; rotate_left; (focus (intro w hSw; (try dsimp only at hSw); go_simp; first | done | with_reducible rfl)); (simp only [Act.at, setIfInBounds_toArray, set_cons_zero, set_cons_succ]))
  | (refine tkU (i := 0) rfl rfl ?_; (simp only [Act.at, setIfInBounds_toArray, set_cons_zero, set_cons_succ]))
  first
  | (refine tkW (i := 1) (v := ?_) rfl rfl ?_ ?_; rotate_left; (focus (intro w hSw; (try dsimp only at hSw); go_simp; first | done | with_reducible rfl)); (simp only [Act.at, setIfInBounds_toArray, set_cons_zero, set_cons_succ]))
  | (refine tkU (i := 1) rfl rfl ?_; (simp only [Act.at, setIfInBounds_toArray, set_cons_zero, set_cons_succ]))
  first
  | (refine tkW (i := 2) (v := ?_) rfl rfl ?_ ?_; rotate_left; (focus (intro w hSw; (try dsimp only at hSw); go_simp; first | done | with_reducible rfl)); (simp only [Act.at, setIfInBounds_toArray, set_cons_zero, set_cons_succ]))
  | (refine tkU (i := 2) rfl rfl ?_; (simp only [Act.at, setIfInBounds_toArray, set_cons_zero, set_cons_succ]))
  first
  | (refine tkW (i := 3) (v := ?_) rfl rfl ?_ ?_; rotate_left; (focus (intro w hSw; (try dsimp only at hSw); go_simp; first | done | with_reducible rfl)); (simp only [Act.at, setIfInBounds_toArray, set_cons_zero, set_cons_succ]))
  | (refine tkU (i := 3) rfl rfl ?_; (simp only [Act.at, setIfInBounds_toArray, set_cons_zero, set_cons_succ]))
  first
  | (refine tkW (i := 4) (v := ?_) rfl rfl ?_ ?_; rotate_left; (focus (intro w hSw; (try dsimp only at hSw); go_simp; first | done | with_reducible rfl)); (simp only [Act.at, setIfInBounds_toArray, set_cons_zero, set_cons_succ]))
  | (refine tkU (i := 4) rfl rfl ?_; (simp only [Act.at, setIfInBounds_toArray, set_cons_zero, set_cons_succ]))
  first
  | (refine tkW (i := 5) (v := ?_) rfl rfl ?_ ?_; rotate_left; (focus (intro w hSw; (try dsimp only at hSw); go_simp; first | done | with_reducible rfl)); (simp only [Act.at, setIfInBounds_toArray, set_cons_zero, set_cons_succ]))
  | (refine tkU (i := 5) rfl rfl ?_; (simp only [Act.at, setIfInBounds_toArray, set_cons_zero, set_cons_succ]))
  first
  | (refine tkW (i := 6) (v := ?_) rfl rfl ?_ ?_; rotate_left; (focus (intro w hSw; (try dsimp only at hSw); go_simp; first | done | with_reducible rfl)); (simp only [Act.at, setIfInBounds_toArray, set_cons_zero, set_cons_succ]))
  | (refine tkU (i := 6) rfl rfl ?_; (simp only [Act.at, setIfInBounds_toArray, set_cons_zero, set_cons_succ]))
  first
  | (refine tkW (i := 7) (v := ?_) rfl rfl ?_ ?_; rotate_left; (focus (intro w hSw; (try dsimp only at hSw); go_simp; first | done | with_reducible rfl)); (simp only [Act.at, setIfInBounds_toArray, set_cons_zero, set_cons_succ]))
  | (refine tkU (i := 7) rfl rfl ?_; (simp only [Act.at, setIfInBounds_toArray, set_cons_zero, set_cons_succ]))
  first
  | (refine tkW (i := 8) (v := ?_) rfl rfl ?_ ?_; rotate_left; (focus (intro w hSw; (try dsimp only at hSw); go_simp; first | done | with_reducible rfl)); (simp only [Act.at, setIfInBounds_toArray, set_cons_zero, set_cons_succ]))
  | (refine tkU (i := 8) rfl rfl ?_; (simp only [Act.at, setIfInBounds_toArray, set_cons_zero, set_cons_succ]))
  first
  | (refine tkW (i := 9) (v := ?_) rfl rfl ?_ ?_; rotate_left; (focus (intro w hSw; (try dsimp only at hSw); go_simp; first | done | with_reducible rfl)); (simp only [Act.at, setIfInBounds_toArray, set_cons_zero, set_cons_succ]))
  | (refine tkU (i := 9) rfl rfl ?_; (simp only [Act.at, setIfInBounds_toArray, set_cons_zero, set_cons_succ]))
  first
  | (refine tkW (i := 10) (v := ?_) rfl rfl ?_ ?_; rotate_left; (focus (intro w hSw; (try dsimp only at hSw); go_simp; first | done | with_reducible rfl)); (simp only [Act.at, setIfInBounds_toArray, set_cons_zero, set_cons_succ]))
  | (refine tkU (i := 10) rfl rfl ?_; (simp only [Act.at, setIfInBounds_toArray, set_cons_zero, set_cons_succ]))
  first
  | (refine tkW (i := 11) (v := ?_) rfl rfl ?_ ?_; rotate_left; (focus (intro w hSw; (try dsimp only at hSw); go_simp; first | done | with_reducible rfl)); (simp only [Act.at, setIfInBounds_toArray, set_cons_zero, set_cons_succ]))
  | (refine tkU (i := 11) rfl rfl ?_; (simp only [Act.at, setIfInBounds_toArray, set_cons_zero, set_cons_succ]))
  first
  | (refine tkW (i := 12) (v := ?_) rfl rfl ?_ ?_; rotate_left; (focus (intro w hSw; (try dsimp only at hSw); go_simp; first | done | with_reducible rfl)); (simp only [Act.at, setIfInBounds_toArray, set_cons_zero, set_cons_succ]))
  | (refine tkU (i := 12) rfl rfl ?_; (simp only [Act.at, setIfInBounds_toArray, set_cons_zero, set_cons_succ]))
  first
  | (refine tkW (i := 13) (v := ?_) rfl rfl ?_ ?_; rotate_left; (focus (intro w hSw; (try dsimp only at hSw); go_simp; first | done | with_reducible rfl)); (simp only [Act.at, setIfInBounds_toArray, set_cons_zero, set_cons_succ]))
  | (refine tkU (i := 13) rfl rfl ?_; (simp only [Act.at, setIfInBounds_toArray, set_cons_zero, set_cons_succ]))
  first
  | (refine tkW (i := 15) (v := ?_) rfl rfl ?_ ?_; rotate_left; (focus (intro w hSw; (try dsimp only at hSw); go_simp; first | done | with_reducible rfl)); (simp only [Act.at, setIfInBounds_toArray, set_cons_zero, set_cons_succ]))
  | (refine tkU (i := 15) rfl rfl ?_; (simp only [Act.at, setIfInBounds_toArray, set_cons_zero, set_cons_succ]))
  first
  | (refine tkW (i := 16) (v := ?_) rfl rfl ?_ ?_; rotate_left; (focus (intro w hSw; (try dsimp only at hSw); go_simp; first | done | with_reducible rfl)); (simp only [Act.at, setIfInBounds_toArray, set_cons_zero, set_cons_succ]))
  | (refine tkU (i := 16) rfl rfl ?_; (simp only [Act.at, setIfInBounds_toArray, set_cons_zero, set_cons_succ]))
  first
  | (refine tkW (i := 17) (v := ?_) rfl rfl ?_ ?_; rotate_left; (focus (intro w hSw; (try dsimp only at hSw); go_simp; first | done | with_reducible rfl)); (simp only [Act.at, setIfInBounds_toArray, set_cons_zero, set_cons_succ]))
  | (refine tkU (i := 17) rfl rfl ?_; (simp only [Act.at, setIfInBounds_toArray, set_cons_zero, set_cons_succ]))
  first
  | (refine tkW (i := 18) (v := ?_) rfl rfl ?_ ?_; rotate_left; (focus (intro w hSw; (try dsimp only at hSw); go_simp; first | done | with_reducible rfl)); (simp only [Act.at, setIfInBounds_toArray, set_cons_zero, set_cons_succ]))
  | (refine tkU (i := 18) rfl rfl ?_; (simp only [Act.at, setIfInBounds_toArray, set_cons_zero, set_cons_succ]))
  first
  | (refine tkW (i := 19) (v := ?_) rfl rfl ?_ ?_; rotate_left; (focus (intro w hSw; (try dsimp only at hSw); go_simp; first | done | with_reducible rfl)); (simp only [Act.at, setIfInBounds_toArray, set_cons_zero, set_cons_succ]))
  | (refine tkU (i := 19) rfl rfl ?_; (simp only [Act.at, setIfInBounds_toArray, set_cons_zero, set_cons_succ]))
  refine takeOne (i := 14) (by kernel_rfl) rfl (by rfl) (fun K hK => ?_)
  have hsl := HSL.out
  go_simp
  refine hK.out _ _ hS (fun hHeld => ?_)
  clear hK K
  try simp only [Act.put, setIfInBounds_toArray, set_cons_zero, set_cons_succ]
  clear hsl
  refine takeOne (i := 20) (by kernel_rfl) rfl (by rfl) (fun K hK => ?_)
  go_simp
  refine HCL.out.mono ?_
  rintro r w1 ⟨u, rfl, hown, hb1⟩
  obtain ⟨A', ca', rfl, hle, hmx, -, -, hrow⟩ := own_rowC (s := (p :: s) ++ ot) hown HSLT.out (by decide)
  obtain ⟨⟨hsl1, hfr1⟩, hS1, hS2, hfin⟩ := HAFT.out w1 A' ca' hb1 hrow hle hmx
  have HFIN := Lib.hid hfin
  clear hown hb1 hle hmx hrow hfin HAFT
  refine hK.out _ _ hS1 (fun hHeld => ?_)
  clear hK K
  try simp only [Act.put, setIfInBounds_toArray, set_cons_zero, set_cons_succ]
  try simp only [Act.at, setIfInBounds_toArray, set_cons_zero, set_cons_succ]
  first
  | (refine tkW (i := 21) (v := ?_) rfl rfl ?_ ?_; rotate_left; (focus (intro w hSw; (try dsimp only at hSw); go_simp; first | done | with_reducible rfl)); (simp only [Act.at, setIfInBounds_toArray, set_cons_zero, set_cons_succ]))
  | (refine tkU (i := 21) rfl rfl ?_; (simp only [Act.at, setIfInBounds_toArray, set_cons_zero, set_cons_succ]))
  first
  | (refine tkW (i := 22) (v := ?_) rfl rfl ?_ ?_; rotate_left; (focus (intro w hSw; (try dsimp only at hSw); go_simp; first | done | with_reducible rfl)); (simp only [Act.at, setIfInBounds_toArray, set_cons_zero, set_cons_succ]))
  | (refine tkU (i := 22) rfl rfl ?_; (simp only [Act.at, setIfInBounds_toArray, set_cons_zero, set_cons_succ]))
  refine takeOne (i := 23) (by kernel_rfl) rfl (by rfl) (fun K hK => ?_)
  go_simp
  refine hK.out _ _ hS2 (fun hHeld => ?_)
  clear hK K
  try simp only [Act.put, setIfInBounds_toArray, set_cons_zero, set_cons_succ]
  refine wpAnyH_done (by kernel_rfl) ?_ _
  clear hsl1 hfr1 hS1 hS2
  go_wp2_with fail
  go_returns
  exact ⟨rfl, HFIN.out⟩
set_option maxRecDepth 100000 in
set_option maxHeartbeats 8000000 in
theorem rapply3_any {w : World} {p : Nat} {s ot : List Nat} {st : Sta} (h : RefS w p s ot st) {v : Evt} {A B : Option Addr} {ca cb : Nat} (hin : EntIn w ((p :: s) ++ ot) v.ent A ca B cb) (hk : v.kind = 3) {k : Nat} (hsq : v.seq = (k : Int)) (hkl : k < st.P.length) (hsl : ∀ e ∈ st.P, e.L.length ≤ 1000) :
    Calls Try.prog 14 #[.pointer (some ⟨p, 0, none⟩), v.val A ca B cb] w fun r w' => r = .returned (.tuple #[]) ∧ RStep w p s ot { st with P := st.P.modify k fun e => { e with L := Sta.erS e.L (-1), gone := true } } w' := by
  obtain ⟨M, hM, hra⟩ := h
  have hbx := RBox.mk0 hra hin
  unfold Evt.val
  clear hin hra
  obtain ⟨kind, ⟨id, cls, born, slot, L, gone, H⟩, seq, idx, name, size, root, now⟩ := v
  dsimp only at *
  subst hk
  subst hsq
  go_enter Try.func14, Try.ntmps14
  go_upto_region 1 with fail
  generalize w.alloc (.cells #[.int .i64 3, .string (S id), .int .i64 cls, .int .i64 born, .int .i64 slot, .slice A L.length ca, .bool gone, .slice B H.length cb, .int .i64 (k : Int), .int .i64 idx, .string (S name), .int .i64 size, .string (S root), .int .i64 now] 37) = W0 at hbx ⊢
  generalize w.heap.size = b0 at hbx ⊢
  have HM := Lib.hid hM
  have HBX := Lib.hid hbx
  obtain ⟨y0, y1, y2, y3, y4, y5, y6, y7, y8, y9, y10, y11, y12, y13⟩ := hbx.bx
  clear hM hbx
  have HLS := Lib.hid hsl
  have HKL := Lib.hid hkl
  clear hsl hkl
  go_upto_region 8 with fail
  clear y0 y1 y2 y3 y4 y5 y6 y7 y8 y9 y10 y11 y12 y13
  have hsl := HLS.out
  have hkl := HKL.out
  have hkm : k < M.length := by have := congrArg List.length HM.out; rw [List.length_map] at this; omega
  have hkl7 := hsl _ (by rw [← HM.out]; exact List.mem_map_of_mem (List.getElem_mem hkm))
  clear hsl hkl HLS HKL
  have HKM := Lib.hid hkm
  have HBD0 := Lib.hid HBX.out.drew
  clear HBX
  obtain ⟨PA, pca, PB, pcb, r1, r2, -, -, r5, -⟩ := HBD0.out.ref.reads
  obtain ⟨be, hPA, hbe, hat⟩ := r5 k HKM.out
  subst hPA
  obtain ⟨x, hx⟩ : ∃ x, M[k]'HKM.out = x := ⟨_, rfl⟩
  have HXI : Hid (XIn W0.drew ((p :: s) ++ ot) x) := Lib.hid (hx ▸ HBD0.out.ref.ents _ (List.getElem_mem HKM.out))
  rw [hx] at hat hkl7
  have HXK : Hid (∀ h : k < M.length, M[k] = x) := Lib.hid (fun _ => hx)
  have HPC : Hid (W0.drew.cell? ⟨p, 0, none⟩ = some (.slice (some ⟨be, 0, none⟩) M.length pca)) := Lib.hid (r1.cell 0)
  have hS : SetS 3 id cls born slot L.length gone H.length (k : Int) idx name size root now b0 A ca B cb p be M.length pca W0.drew := ⟨HBD0.out.bx, HPC.out⟩
  have HSL : Hid (W0.drew.cell? ⟨be, k * 7 + 4, none⟩ = some (.slice x.A x.e.L.length x.ca)) := Lib.hid hat.2.2.2.2.1
  have HCL := Lib.hid (rslips_any (w := W0.drew) (L := x.e.L) (A := x.A) (ca := x.ca) (HXI.out.rl.sub (by simp)) HXI.out.la hkl7 (-1))
  have HBD := Lib.hid HBD0.out
  have HBE := Lib.hid hbe
  have hkM : (k : Int) < (M.length : Int) := by have := HKM.out; omega
  have hkc : (k : Int) < (pca : Int) := by have := HKM.out; omega
  clear hat r1 r2 r5 hbe HBD0 hx hkm hkl7
  refine wp_region_held_drew (S := SetS 3 id cls born slot L.length gone H.length (k : Int) idx name size root now b0 A ca B cb p be M.length pca) (by kernel_rfl) hS (fun hHeld => ?_)
  generalize W0.drew = wd at hS hHeld HSL HCL HBD HXI HPC HBE ⊢
  have HAFT : Hid (∀ (w1 : World) (A' : Option Addr) (ca' : Nat), Below wd.heap.size wd w1 → RowC w1 ((p :: s) ++ ot) A' (svs (Sta.erS x.e.L (-1))) → x.e.L.length ≤ ca' → ca' ≤ maxLen →
      (w1.cell? ⟨be, k * 7 + 4, none⟩ = some (.slice x.A x.e.L.length x.ca) ∧ w1.frozen? ⟨be, k * 7 + 4, none⟩ = false) ∧ (SetS 3 id cls born slot L.length gone H.length (k : Int) idx name size root now b0 A ca B cb p be M.length pca w1) ∧ (SetS 3 id cls born slot L.length gone H.length (k : Int) idx name size root now b0 A ca B cb p be M.length pca (w1.setCell ⟨be, k * 7 + 4, none⟩ (.slice A' x.e.L.length ca'))) ∧ (fun W => ∃ (M1 : List EntX), M1.map EntX.e = st.P.modify k (fun e => { e with L := Sta.erS e.L (-1) }) ∧ k < M1.length ∧ RBox w p b0 s ot M1 st.Q st.now ⟨3, ⟨id, cls, born, slot, L, gone, H⟩, (k : Int), idx, name, size, root, now⟩ A ca B cb W) (w1.setCell ⟨be, k * 7 + 4, none⟩ (.slice A' x.e.L.length ca'))) := Lib.hid (fun w1 A' ca' hb1 hrow hle hmx => by
    have hbd1 := HBD.out.mv' hb1
    have hpc1 : w1.cell? ⟨p, 0, none⟩ = some (.slice (some ⟨be, 0, none⟩) M.length pca) := (hb1.cell (p := ⟨p, 0, none⟩) HBD.out.ref.lt.1).trans HPC.out
    have hs1 := SetS.of hS (hb1.block b0 HBD.out.lt) (hb1.block p HBD.out.ref.lt.1)
    have hxi1 := HXI.out.below hb1
    have hxk := HXK.out HKM.out
    obtain ⟨q1, q2, q3⟩ := hbd1.setk HKM.out hpc1 4 (by decide) (.slice A' x.e.L.length ca') ⟨{ x.e with L := Sta.erS x.e.L (-1) }, A', ca', x.B, x.cb⟩ (by rw [hxk]; unfold EntX.cs Ent.cs; dsimp only; rw [Sta.erS_len]; rfl) ⟨hrow, hxi1.rh, by rw [Sta.erS_len]; exact hle, by simpa only [maxLen] using hmx, hxi1.lb, hxi1.mb⟩
    refine ⟨⟨(hb1.cell (p := ⟨be, k * 7 + 4, none⟩) HBE.out).trans HSL.out, hbd1.ref.frz hpc1 _⟩, hs1, SetS.of hs1 (Below.heap_setCell w1 ⟨be, k * 7 + 4, none⟩ _ b0 (fun e => q2 e.symm)) (Below.heap_setCell w1 ⟨be, k * 7 + 4, none⟩ _ p (fun e => q3 e.symm)), ?_⟩
    exact ⟨_, map_modify HM.out HKM.out _ _ (by rw [hxk]), by rw [List.length_set]; exact HKM.out, q1⟩)
  have HSLT : Hid (∀ y ∈ (p :: s) ++ ot, y < wd.heap.size) := Lib.hid (fun y hy => by
    rcases List.mem_append.1 hy with hy | hy
    · rcases List.mem_cons.1 hy with rfl | hy
      · exact HBD.out.ref.lt.1
      · exact HBD.out.ref.lt.2 _ hy
    · exact HBD.out.ref.ul _ hy)
  first
  | (refine tkW (i := 0) (v := ?_) rfl rfl ?_ ?_; rotate_left; (focus (intro w hSw; (try dsimp only at hSw); go_simp; first | done | with_reducible rfl)); (simp only [Act.at, setIfInBounds_toArray, set_cons_zero, set_cons_succ]))
  | (refine tkU (i := 0) rfl rfl ?_; (simp only [Act.at, setIfInBounds_toArray, set_cons_zero, set_cons_succ]))
  first
  | (refine tkW (i := 1) (v := ?_) rfl rfl ?_ ?_; rotate_left; (focus (intro w hSw; (try dsimp only at hSw); go_simp; first | done | with_reducible rfl)); (simp only [Act.at, setIfInBounds_toArray, set_cons_zero, set_cons_succ]))
  | (refine tkU (i := 1) rfl rfl ?_; (simp only [Act.at, setIfInBounds_toArray, set_cons_zero, set_cons_succ]))
  first
  | (refine tkW (i := 2) (v := ?_) rfl rfl ?_ ?_; rotate_left; (focus (intro w hSw; (try dsimp only at hSw); go_simp; first | done | with_reducible rfl)); (simp only [Act.at, setIfInBounds_toArray, set_cons_zero, set_cons_succ]))
  | (refine tkU (i := 2) rfl rfl ?_; (simp only [Act.at, setIfInBounds_toArray, set_cons_zero, set_cons_succ]))
  first
  | (refine tkW (i := 3) (v := ?_) rfl rfl ?_ ?_; rotate_left; (focus (intro w hSw; (try dsimp only at hSw); go_simp; first | done | with_reducible rfl)); (simp only [Act.at, setIfInBounds_toArray, set_cons_zero, set_cons_succ]))
  | (refine tkU (i := 3) rfl rfl ?_; (simp only [Act.at, setIfInBounds_toArray, set_cons_zero, set_cons_succ]))
  first
  | (refine tkW (i := 4) (v := ?_) rfl rfl ?_ ?_; rotate_left; (focus (intro w hSw; (try dsimp only at hSw); go_simp; first | done | with_reducible rfl)); (simp only [Act.at, setIfInBounds_toArray, set_cons_zero, set_cons_succ]))
  | (refine tkU (i := 4) rfl rfl ?_; (simp only [Act.at, setIfInBounds_toArray, set_cons_zero, set_cons_succ]))
  first
  | (refine tkW (i := 5) (v := ?_) rfl rfl ?_ ?_; rotate_left; (focus (intro w hSw; (try dsimp only at hSw); go_simp; first | done | with_reducible rfl)); (simp only [Act.at, setIfInBounds_toArray, set_cons_zero, set_cons_succ]))
  | (refine tkU (i := 5) rfl rfl ?_; (simp only [Act.at, setIfInBounds_toArray, set_cons_zero, set_cons_succ]))
  first
  | (refine tkW (i := 6) (v := ?_) rfl rfl ?_ ?_; rotate_left; (focus (intro w hSw; (try dsimp only at hSw); go_simp; first | done | with_reducible rfl)); (simp only [Act.at, setIfInBounds_toArray, set_cons_zero, set_cons_succ]))
  | (refine tkU (i := 6) rfl rfl ?_; (simp only [Act.at, setIfInBounds_toArray, set_cons_zero, set_cons_succ]))
  first
  | (refine tkW (i := 7) (v := ?_) rfl rfl ?_ ?_; rotate_left; (focus (intro w hSw; (try dsimp only at hSw); go_simp; first | done | with_reducible rfl)); (simp only [Act.at, setIfInBounds_toArray, set_cons_zero, set_cons_succ]))
  | (refine tkU (i := 7) rfl rfl ?_; (simp only [Act.at, setIfInBounds_toArray, set_cons_zero, set_cons_succ]))
  first
  | (refine tkW (i := 8) (v := ?_) rfl rfl ?_ ?_; rotate_left; (focus (intro w hSw; (try dsimp only at hSw); go_simp; first | done | with_reducible rfl)); (simp only [Act.at, setIfInBounds_toArray, set_cons_zero, set_cons_succ]))
  | (refine tkU (i := 8) rfl rfl ?_; (simp only [Act.at, setIfInBounds_toArray, set_cons_zero, set_cons_succ]))
  first
  | (refine tkW (i := 9) (v := ?_) rfl rfl ?_ ?_; rotate_left; (focus (intro w hSw; (try dsimp only at hSw); go_simp; first | done | with_reducible rfl)); (simp only [Act.at, setIfInBounds_toArray, set_cons_zero, set_cons_succ]))
  | (refine tkU (i := 9) rfl rfl ?_; (simp only [Act.at, setIfInBounds_toArray, set_cons_zero, set_cons_succ]))
  first
  | (refine tkW (i := 10) (v := ?_) rfl rfl ?_ ?_; rotate_left; (focus (intro w hSw; (try dsimp only at hSw); go_simp; first | done | with_reducible rfl)); (simp only [Act.at, setIfInBounds_toArray, set_cons_zero, set_cons_succ]))
  | (refine tkU (i := 10) rfl rfl ?_; (simp only [Act.at, setIfInBounds_toArray, set_cons_zero, set_cons_succ]))
  first
  | (refine tkW (i := 11) (v := ?_) rfl rfl ?_ ?_; rotate_left; (focus (intro w hSw; (try dsimp only at hSw); go_simp; first | done | with_reducible rfl)); (simp only [Act.at, setIfInBounds_toArray, set_cons_zero, set_cons_succ]))
  | (refine tkU (i := 11) rfl rfl ?_; (simp only [Act.at, setIfInBounds_toArray, set_cons_zero, set_cons_succ]))
  first
  | (refine tkW (i := 12) (v := ?_) rfl rfl ?_ ?_; rotate_left; (focus (intro w hSw; (try dsimp only at hSw); go_simp; first | done | with_reducible rfl)); (simp only [Act.at, setIfInBounds_toArray, set_cons_zero, set_cons_succ]))
  | (refine tkU (i := 12) rfl rfl ?_; (simp only [Act.at, setIfInBounds_toArray, set_cons_zero, set_cons_succ]))
  first
  | (refine tkW (i := 13) (v := ?_) rfl rfl ?_ ?_; rotate_left; (focus (intro w hSw; (try dsimp only at hSw); go_simp; first | done | with_reducible rfl)); (simp only [Act.at, setIfInBounds_toArray, set_cons_zero, set_cons_succ]))
  | (refine tkU (i := 13) rfl rfl ?_; (simp only [Act.at, setIfInBounds_toArray, set_cons_zero, set_cons_succ]))
  refine takeOne (i := 14) (by kernel_rfl) rfl (by rfl) (fun K hK => ?_)
  have hsl := HSL.out
  go_simp
  refine hK.out _ _ hS (fun hHeld => ?_)
  clear hK K
  try simp only [Act.put, setIfInBounds_toArray, set_cons_zero, set_cons_succ]
  clear hsl
  refine takeOne (i := 15) (by kernel_rfl) rfl (by rfl) (fun K hK => ?_)
  go_simp
  refine HCL.out.mono ?_
  rintro r w1 ⟨u, rfl, hown, hb1⟩
  obtain ⟨A', ca', rfl, hle, hmx, -, -, hrow⟩ := own_rowC (s := (p :: s) ++ ot) hown HSLT.out (by decide)
  obtain ⟨⟨hsl1, hfr1⟩, hS1, hS2, hfin⟩ := HAFT.out w1 A' ca' hb1 hrow hle hmx
  have HFIN := Lib.hid hfin
  clear hown hb1 hle hmx hrow hfin HAFT
  refine hK.out _ _ hS1 (fun hHeld => ?_)
  clear hK K
  try simp only [Act.put, setIfInBounds_toArray, set_cons_zero, set_cons_succ]
  try simp only [Act.at, setIfInBounds_toArray, set_cons_zero, set_cons_succ]
  first
  | (refine tkW (i := 16) (v := ?_) rfl rfl ?_ ?_; rotate_left; (focus (intro w hSw; (try dsimp only at hSw); go_simp; first | done | with_reducible rfl)); (simp only [Act.at, setIfInBounds_toArray, set_cons_zero, set_cons_succ]))
  | (refine tkU (i := 16) rfl rfl ?_; (simp only [Act.at, setIfInBounds_toArray, set_cons_zero, set_cons_succ]))
  first
  | (refine tkW (i := 17) (v := ?_) rfl rfl ?_ ?_; rotate_left; (focus (intro w hSw; (try dsimp only at hSw); go_simp; first | done | with_reducible rfl)); (simp only [Act.at, setIfInBounds_toArray, set_cons_zero, set_cons_succ]))
  | (refine tkU (i := 17) rfl rfl ?_; (simp only [Act.at, setIfInBounds_toArray, set_cons_zero, set_cons_succ]))
  refine takeOne (i := 18) (by kernel_rfl) rfl (by rfl) (fun K hK => ?_)
  go_simp
  refine hK.out _ _ hS2 (fun hHeld => ?_)
  clear hK K
  try simp only [Act.put, setIfInBounds_toArray, set_cons_zero, set_cons_succ]
  refine wpAnyH_done (by kernel_rfl) ?_ _
  clear hsl1 hfr1 hS1 hS2
  clear hHeld
  generalize w1.setCell ⟨be, k * 7 + 4, none⟩ (.slice A' x.e.L.length ca') = W1 at HFIN ⊢
  clear HCL HBD HXI HPC HBE HSL HXK HSLT hkM hkc hS
  obtain ⟨M1, hm1, hk1, hbx1⟩ := HFIN.out
  have HM1 := Lib.hid hm1
  have HKM1 := Lib.hid hk1
  have HBD0 := Lib.hid hbx1.drew
  clear hm1 hk1 hbx1 HFIN HKM
  replace HKM := HKM1
  clear HKM1
  go_upto_region 9 with fail
  obtain ⟨PA, pca, PB, pcb, r1, r2, -, -, r5, -⟩ := HBD0.out.ref.reads
  obtain ⟨be, hPA, hbe, hat⟩ := r5 k HKM.out
  subst hPA
  obtain ⟨x, hx⟩ : ∃ x, M1[k]'HKM.out = x := ⟨_, rfl⟩
  have HXI : Hid (XIn W1.drew ((p :: s) ++ ot) x) := Lib.hid (hx ▸ HBD0.out.ref.ents _ (List.getElem_mem HKM.out))
  rw [hx] at hat
  have HXK : Hid (∀ h : k < M1.length, M1[k] = x) := Lib.hid (fun _ => hx)
  have HPC : Hid (W1.drew.cell? ⟨p, 0, none⟩ = some (.slice (some ⟨be, 0, none⟩) M1.length pca)) := Lib.hid (r1.cell 0)
  have hS : SetS 3 id cls born slot L.length gone H.length (k : Int) idx name size root now b0 A ca B cb p be M1.length pca W1.drew := ⟨HBD0.out.bx, HPC.out⟩
  have HSL : Hid (W1.drew.cell? ⟨be, k * 7 + 5, none⟩ = some (.bool x.e.gone)) := Lib.hid hat.2.2.2.2.2.1
  have HBD := Lib.hid HBD0.out
  have HBE := Lib.hid hbe
  have hkM : (k : Int) < (M1.length : Int) := by have := HKM.out; omega
  have hkc : (k : Int) < (pca : Int) := by have := HKM.out; omega
  clear hat r1 r2 r5 hbe HBD0 hx
  refine wp_region_held_drew (S := SetS 3 id cls born slot L.length gone H.length (k : Int) idx name size root now b0 A ca B cb p be M1.length pca) (by kernel_rfl) hS (fun hHeld => ?_)
  generalize W1.drew = we at hS hHeld HSL HBD HXI HPC HBE ⊢
  have HAFT : Hid ((we.frozen? ⟨be, k * 7 + 5, none⟩ = false) ∧ (SetS 3 id cls born slot L.length gone H.length (k : Int) idx name size root now b0 A ca B cb p be M1.length pca (we.setCell ⟨be, k * 7 + 5, none⟩ (.bool true))) ∧ RStep w p s ot { st with P := st.P.modify k fun e => { e with L := Sta.erS e.L (-1), gone := true } } (we.setCell ⟨be, k * 7 + 5, none⟩ (.bool true))) := Lib.hid (by
    have hxk := HXK.out HKM.out
    obtain ⟨q1, q2, q3⟩ := HBD.out.setk HKM.out HPC.out 5 (by decide) (.bool true) ⟨{ x.e with gone := true }, x.A, x.ca, x.B, x.cb⟩ (by rw [hxk]; rfl) ⟨HXI.out.rl, HXI.out.rh, HXI.out.la, HXI.out.ma, HXI.out.lb, HXI.out.mb⟩
    refine ⟨HBD.out.ref.frz HPC.out _, SetS.of hS (Below.heap_setCell we ⟨be, k * 7 + 5, none⟩ _ b0 (fun e => q2 e.symm)) (Below.heap_setCell we ⟨be, k * 7 + 5, none⟩ _ p (fun e => q3 e.symm)), ?_⟩
    exact RefS.step q1.ref (by rw [map_modify HM1.out HKM.out _ (fun e => { e with gone := true }) (by rw [hxk]), modify_modify]) rfl rfl q1.mv (fun y hy => Or.inl hy))
  obtain ⟨hfr1, hS2, hfin⟩ := HAFT.out
  have hsl1 := HSL.out
  have HFIN := Lib.hid hfin
  clear hfin HAFT
  first
  | (refine tkW (i := 0) (v := ?_) rfl rfl ?_ ?_; rotate_left; (focus (intro w hSw; (try dsimp only at hSw); go_simp; first | done | with_reducible rfl)); (simp only [Act.at, setIfInBounds_toArray, set_cons_zero, set_cons_succ]))
  | (refine tkU (i := 0) rfl rfl ?_; (simp only [Act.at, setIfInBounds_toArray, set_cons_zero, set_cons_succ]))
  first
  | (refine tkW (i := 1) (v := ?_) rfl rfl ?_ ?_; rotate_left; (focus (intro w hSw; (try dsimp only at hSw); go_simp; first | done | with_reducible rfl)); (simp only [Act.at, setIfInBounds_toArray, set_cons_zero, set_cons_succ]))
  | (refine tkU (i := 1) rfl rfl ?_; (simp only [Act.at, setIfInBounds_toArray, set_cons_zero, set_cons_succ]))
  first
  | (refine tkW (i := 2) (v := ?_) rfl rfl ?_ ?_; rotate_left; (focus (intro w hSw; (try dsimp only at hSw); go_simp; first | done | with_reducible rfl)); (simp only [Act.at, setIfInBounds_toArray, set_cons_zero, set_cons_succ]))
  | (refine tkU (i := 2) rfl rfl ?_; (simp only [Act.at, setIfInBounds_toArray, set_cons_zero, set_cons_succ]))
  first
  | (refine tkW (i := 3) (v := ?_) rfl rfl ?_ ?_; rotate_left; (focus (intro w hSw; (try dsimp only at hSw); go_simp; first | done | with_reducible rfl)); (simp only [Act.at, setIfInBounds_toArray, set_cons_zero, set_cons_succ]))
  | (refine tkU (i := 3) rfl rfl ?_; (simp only [Act.at, setIfInBounds_toArray, set_cons_zero, set_cons_succ]))
  first
  | (refine tkW (i := 4) (v := ?_) rfl rfl ?_ ?_; rotate_left; (focus (intro w hSw; (try dsimp only at hSw); go_simp; first | done | with_reducible rfl)); (simp only [Act.at, setIfInBounds_toArray, set_cons_zero, set_cons_succ]))
  | (refine tkU (i := 4) rfl rfl ?_; (simp only [Act.at, setIfInBounds_toArray, set_cons_zero, set_cons_succ]))
  first
  | (refine tkW (i := 5) (v := ?_) rfl rfl ?_ ?_; rotate_left; (focus (intro w hSw; (try dsimp only at hSw); go_simp; first | done | with_reducible rfl)); (simp only [Act.at, setIfInBounds_toArray, set_cons_zero, set_cons_succ]))
  | (refine tkU (i := 5) rfl rfl ?_; (simp only [Act.at, setIfInBounds_toArray, set_cons_zero, set_cons_succ]))
  first
  | (refine tkW (i := 6) (v := ?_) rfl rfl ?_ ?_; rotate_left; (focus (intro w hSw; (try dsimp only at hSw); go_simp; first | done | with_reducible rfl)); (simp only [Act.at, setIfInBounds_toArray, set_cons_zero, set_cons_succ]))
  | (refine tkU (i := 6) rfl rfl ?_; (simp only [Act.at, setIfInBounds_toArray, set_cons_zero, set_cons_succ]))
  first
  | (refine tkW (i := 7) (v := ?_) rfl rfl ?_ ?_; rotate_left; (focus (intro w hSw; (try dsimp only at hSw); go_simp; first | done | with_reducible rfl)); (simp only [Act.at, setIfInBounds_toArray, set_cons_zero, set_cons_succ]))
  | (refine tkU (i := 7) rfl rfl ?_; (simp only [Act.at, setIfInBounds_toArray, set_cons_zero, set_cons_succ]))
  refine takeOne (i := 8) (by kernel_rfl) rfl (by rfl) (fun K hK => ?_)
  go_simp
  refine hK.out _ _ hS2 (fun hHeld => ?_)
  clear hK K
  try simp only [Act.put, setIfInBounds_toArray, set_cons_zero, set_cons_succ]
  refine wpAnyH_done (by kernel_rfl) ?_ _
  clear hsl1 hfr1 hS2 hS
  go_wp2_with fail
  go_returns
  exact ⟨rfl, HFIN.out⟩
end Go.Proofs.Ytojemaaljjibiaa

namespace Go.Proofs.Ytojemaaljjibiaa
open Go.RowKit
set_option linter.unusedVariables false

theorem Sta.Inv.lens {st : Sta} (h : Sta.Inv st) : ∀ e ∈ st.P, e.L.length ≤ 1000 ∧ e.H.length ≤ 1000 := fun e he => by
  have hr := h.right e he
  unfold Ev.entR at hr
  simp only [Bool.and_eq_true, decide_eq_true_eq] at hr
  omega
theorem rapply_any {w : World} {p : Nat} {s ot : List Nat} {st : Sta} (h : RefS w p s ot st) (hI : Sta.Inv st) (hQ : st.Q.length ≤ 1000) {v : Evt} {A B : Option Addr} {ca cb : Nat} (hin : EntIn w ((p :: s) ++ ot) v.ent A ca B cb) (hc : Sta.check st v = 0) :
    Calls Try.prog 14 #[.pointer (some ⟨p, 0, none⟩), v.val A ca B cb] w fun r w' => r = .returned (.tuple #[]) ∧ RStep w p s ot (Sta.apply st v) w' := by
  have hr : Ev.right v = true := by
    cases hq : Ev.right v with
    | true => rfl
    | false => unfold Sta.check at hc; rw [if_pos hq] at hc; exact absurd hc (by decide)
  have hseq : v.kind ≠ 1 → v.kind ≠ 6 → v.kind ≠ 7 → ∃ k : Nat, v.seq = (k : Int) ∧ k < st.P.length := fun h1 h6 h7 => by
    unfold Sta.check at hc
    rw [if_neg (by rw [hr]; decide), if_neg h1, if_neg h6, if_neg h7] at hc
    have hlt : ¬ (st.P.length : Int) ≤ v.seq := fun hle => by rw [if_pos hle] at hc; exact absurd hc (by decide)
    have h0 : 0 ≤ v.seq := by
      unfold Ev.right at hr
      rw [if_neg h1] at hr
      unfold Ev.rng at hr
      by_cases h2 : v.kind = 2
      · rw [if_pos h2] at hr; simp at hr; omega
      rw [if_neg h2] at hr
      by_cases h3 : v.kind = 3
      · rw [if_pos h3] at hr; simp at hr; omega
      rw [if_neg h3] at hr
      by_cases h4 : v.kind = 4 ∨ v.kind = 5
      · rw [if_pos h4] at hr; simp at hr; omega
      rw [if_neg h4, if_neg h6, if_neg h7] at hr
      cases hr
    exact ⟨v.seq.toNat, by omega, by omega⟩
  unfold Sta.apply
  by_cases k1 : v.kind = 1
  · rw [if_pos k1]
    exact rapply1_any h hin k1 (Nat.le_trans hI.few (by decide))
  rw [if_neg k1]
  by_cases k2 : v.kind = 2
  · obtain ⟨k, hk, hkl⟩ := hseq k1 (by omega) (by omega)
    have := rapply2_any h hin k2 hk hkl (fun e he => (hI.lens e he).1)
    rw [if_pos k2, hk]
    exact this
  rw [if_neg k2]
  by_cases k3 : v.kind = 3
  · obtain ⟨k, hk, hkl⟩ := hseq k1 (by omega) (by omega)
    have := rapply3_any h hin k3 hk hkl (fun e he => (hI.lens e he).1)
    rw [if_pos k3, hk]
    exact this
  rw [if_neg k3]
  by_cases k4 : v.kind = 4
  · obtain ⟨k, hk, hkl⟩ := hseq k1 (by omega) (by omega)
    have := rapply4_any h hin k4 hk hkl (fun e he => (hI.lens e he).2)
    rw [if_pos (Or.inl k4), hk, decide_eq_true k4]
    exact this
  by_cases k5 : v.kind = 5
  · obtain ⟨k, hk, hkl⟩ := hseq k1 (by omega) (by omega)
    have := rapply5_any h hin k5 hk hkl (fun e he => (hI.lens e he).2)
    rw [if_pos (Or.inr k5), hk, decide_eq_false k4]
    exact this
  rw [if_neg (by omega)]
  by_cases k6 : v.kind = 6
  · rw [if_pos k6]
    exact rapply6_any h hin k6 hQ
  rw [if_neg k6]
  by_cases k7 : v.kind = 7
  · exact rapply7_any h hin k7
  · unfold Ev.right at hr
    rw [if_neg k1, if_neg k2, if_neg k3, if_neg (by omega), if_neg k6, if_neg k7] at hr
    cases hr
end Go.Proofs.Ytojemaaljjibiaa
