/-
  QRS: the texts StaQR, StaQS in one.
-/
import Derived.Test.YtojemaaljjibiaaPQOP
open List (setIfInBounds_toArray set_cons_zero set_cons_succ)
namespace Go.Proofs.Ytojemaaljjibiaa
open Go.RowKit
set_option linter.unusedVariables false

theorem EvBoxC.keep {kind : Int} {id : List UInt8} {cls born slot : Int} {ll : Nat} {gone : Bool} {hl : Nat} {seq idx : Int} {name : List UInt8} {size : Int} {root : List UInt8} {now : Int} {b : Nat} {A : Option Addr} {ca : Nat} {B : Option Addr} {cb : Nat} {w w' : World} (h : EvBoxC kind id cls born slot ll gone hl seq idx name size root now b A ca B cb w) (hb : w'.heap[b]? = w.heap[b]?) : EvBoxC kind id cls born slot ll gone hl seq idx name size root now b A ca B cb w' := by
  have m := fun (i : Nat) (x : Value) (hc : w.cell? ⟨b, i, none⟩ = some x) => World.cell_block hb hc
  obtain ⟨h0, h1, h2, h3, h4, h5, h6, h7, h8, h9, h10, h11, h12, h13⟩ := h
  exact ⟨m _ _ h0, m _ _ h1, m _ _ h2, m _ _ h3, m _ _ h4, m _ _ h5, m _ _ h6, m _ _ h7, m _ _ h8, m _ _ h9, m _ _ h10, m _ _ h11, m _ _ h12, m _ _ h13⟩
section
variable {w : World} {q : Nat} {s ot : List Nat} {st : Sta} {n : Nat}
set_option maxRecDepth 100000 in
set_option maxHeartbeats 16000000 in
theorem stApplyC (h : StAt w q s ot st n) (hI : Sta.Inv st) (hQ : st.Q.length ≤ 1000) (hn : n ≤ 1000) {v : Evt} {A B : Option Addr} {ca cb : Nat} (hin : EntIn w ((q :: s) ++ ot) v.ent A ca B cb) (hf : EvtFew v) (hc : Sta.check st v = 0) (k1 : v.kind ≠ 1) (k6 : v.kind ≠ 6) (k7 : v.kind ≠ 7) :
    Calls Try.prog 13 #[.pointer (some ⟨q, 0, none⟩), v.val A ca B cb] w fun r w' => r = .returned (.int .i64 0) ∧ ApPost w q s ot (Sta.apply st v) (n + 1) w' := by
  have hr : Ev.right v = true := by
    cases hq : Ev.right v with
    | true => rfl
    | false => exact absurd ((Sta.check_ways st v 0 hc).1 hq) (by decide)
  obtain ⟨hrr, hs0, -⟩ := (Sta.check_ways st v 0 hc).2.2.2.2 hr k1 k6 k7
  have hlt : ¬ (st.P.length : Int) ≤ v.seq := fun hle => by rw [if_pos hle] at hrr; exact absurd hrr (by decide)
  obtain ⟨k, hk⟩ : ∃ k : Nat, v.seq = (k : Int) := ⟨v.seq.toNat, by omega⟩
  have hkP : k < st.P.length := by omega
  have HCH := Lib.hid (fun (W : World) (M : List EntX) (s : List Nat) (hR : StRep W q s M st.Q st.now n) (hM : M.map EntX.e = st.P) (ca0 mb be : Nat) (B0 : Option Addr) (cb0 : Nat) (h1 : Has W q 58 #[.slice (some ⟨be, 0, none⟩) M.length ca0, .map (some mb), .slice B0 st.Q.length cb0, .int .i64 st.now, .int .i64 (n : Int)]) => changeAll_any hR hM hI h1 (k := k) (by have := congrArg List.length hM; rw [List.length_map] at this; omega) hk hr k1 k6 k7 hc A ca B cb)
  unfold Evt.val at HCH
  generalize Sta.apply st v = st2 at HCH ⊢
  have hbv : Below w.heap.size w (w.alloc (.cells #[.int .i64 v.kind, .string (S v.ent.id), .int .i64 v.ent.cls, .int .i64 v.ent.born, .int .i64 v.ent.slot, .slice A v.ent.L.length ca, .bool v.ent.gone, .slice B v.ent.H.length cb, .int .i64 v.seq, .int .i64 v.idx, .string (S v.name), .int .i64 v.size, .string (S v.root), .int .i64 v.now] 37)) := stBox _ _
  have hhv := Has.made w 37 #[.int .i64 v.kind, .string (S v.ent.id), .int .i64 v.ent.cls, .int .i64 v.ent.born, .int .i64 v.ent.slot, .slice A v.ent.L.length ca, .bool v.ent.gone, .slice B v.ent.H.length cb, .int .i64 v.seq, .int .i64 v.idx, .string (S v.name), .int .i64 v.size, .string (S v.root), .int .i64 v.now]
  have hck := stCheck (h.below hbv) hI hQ (EntIn.below (hin.sub (t := []) (by simp)) hbv) hf
  rw [hc] at hck
  have HCK := Lib.hid hck
  have hu := h.ul
  obtain ⟨⟨M, hM, hr0⟩, -⟩ := h
  have hbx : EvBox w.heap.size v A ca B cb (w.alloc (.cells #[.int .i64 v.kind, .string (S v.ent.id), .int .i64 v.ent.cls, .int .i64 v.ent.born, .int .i64 v.ent.slot, .slice A v.ent.L.length ca, .bool v.ent.gone, .slice B v.ent.H.length cb, .int .i64 v.seq, .int .i64 v.idx, .string (S v.name), .int .i64 v.size, .string (S v.root), .int .i64 v.now] 37)) := ⟨hhv.cell 0, hhv.cell 1, hhv.cell 2, hhv.cell 3, hhv.cell 4, hhv.cell 5, hhv.cell 6, hhv.cell 7, hhv.cell 8, hhv.cell 9, hhv.cell 10, hhv.cell 11, hhv.cell 12, hhv.cell 13⟩
  have hblt := hhv.lt
  have hbq : w.heap.size ∉ q :: s := fun hx => by have := hr0.ltAll _ hx; omega
  have hrw := hr0.mid hbv
  have HU := Lib.hid hu
  have HM := Lib.hid hM
  clear hrr hs0 hlt hr
  clear hhv hck hin hf hI hQ hu hM hr0
  unfold Evt.val at HCK ⊢
  obtain ⟨kind, ⟨id, cls, born, slot, L, gone, H⟩, seq, idx, name, size, root, now2⟩ := v
  dsimp only at *
  subst hk
  go_enter Try.func13, Try.ntmps13
  go_upto_region 1 with fail
  generalize w.alloc (.cells #[.int .i64 kind, .string (S id), .int .i64 cls, .int .i64 born, .int .i64 slot, .slice A L.length ca, .bool gone, .slice B H.length cb, .int .i64 (k : Int), .int .i64 idx, .string (S name), .int .i64 size, .string (S root), .int .i64 now2] 37) = W0 at HCK hbx hbv hblt hrw ⊢
  obtain ⟨b0, hq0⟩ : ∃ b0, w.heap.size = b0 := ⟨_, rfl⟩
  rw [hq0] at hbx hblt hbq ⊢
  have HQ0 := Lib.hid (And.intro hq0 hbq)
  have HB := Lib.hid hbv
  have HBX := Lib.hid (And.intro hblt hbx)
  have HRW := Lib.hid hrw
  obtain ⟨y0, y1, y2, y3, y4, y5, y6, y7, y8, y9, y10, y11, y12, y13⟩ := hbx
  clear hbv hrw hq0 hblt hbq
  go_wp2_with fail
  refine HCK.out.mono ?_
  rintro r w1 ⟨rfl, hb1⟩
  have HB1 := Lib.hid (HB.out.trans (hb1.mono HB.out.size))
  have HR1 := Lib.hid (HRW.out.mid hb1)
  have hbx1 := EvBox.below (v := ⟨kind, ⟨id, cls, born, slot, L, gone, H⟩, (k : Int), idx, name, size, root, now2⟩) HBX.out.2 hb1 HBX.out.1
  have hblt1 : b0 < w1.heap.size := Nat.lt_of_lt_of_le HBX.out.1 hb1.size
  clear hb1 HB HRW HBX HCK y0 y1 y2 y3 y4 y5 y6 y7 y8 y9 y10 y11 y12 y13
  have HBX1 := Lib.hid (And.intro hblt1 hbx1)
  obtain ⟨y0, y1, y2, y3, y4, y5, y6, y7, y8, y9, y10, y11, y12, y13⟩ := hbx1
  dsimp only at y0 y1 y2 y3 y4 y5 y6 y7 y8 y9 y10 y11 y12 y13
  obtain ⟨PA, pca, mb, PB, pcb, hh, hca, hcb, -, -, hsq⟩ := HR1.out.reads
  have n1 : (kind == 1) = false := by rw [beq_eq_false_iff_ne]; exact k1
  have n6 : (kind == 6) = false := by rw [beq_eq_false_iff_ne]; exact k6
  have n7 : (kind == 7) = false := by rw [beq_eq_false_iff_ne]; exact k7
  have hlM : M.length = st.P.length := by rw [← HM.out, List.length_map]
  have hkM : k < M.length := by omega
  have hki : (k : Int) < (M.length : Int) := by omega
  have hkc : (k : Int) < (pca : Int) := by omega
  have hk0 : (0 : Int) ≤ (k : Int) := by omega
  obtain ⟨be, hA⟩ : ∃ be, PA = some ⟨be, 0, none⟩ := by
    obtain ⟨_, r⟩ := ownS_reads (HR1.out.rowX hh)
    obtain ⟨b, e, _⟩ := r (by omega)
    exact ⟨b, e⟩
  subst hA
  have HHH := Lib.hid (And.intro (HR1.out.mid (Below.refl _ w1).drew) (show Has w1.drew q _ _ from hh))
  have p0 : w1.drew.cell? ⟨q, 0, none⟩ = some (.slice (some ⟨be, 0, none⟩) M.length pca) := hh.cell 0
  have HBD := Lib.hid HB1.out.drew
  have HLT : Hid (b0 < w1.drew.heap.size) := Lib.hid HBX1.out.1
  clear hh hsq hca hcb k1 k6 k7 HR1 HBX1 hkP hlM hkM HB1
  go_upto_region 5 with fail
  have hS : EvBoxC kind id cls born slot L.length gone H.length (k : Int) idx name size root now2 b0 A ca B cb w1.drew := ⟨y0, y1, y2, y3, y4, y5, y6, y7, y8, y9, y10, y11, y12, y13⟩
  clear y0 y1 y2 y3 y4 y5 y6 y7 y8 y9 y10 y11 y12 y13
  refine wp_region_held_drew (S := EvBoxC kind id cls born slot L.length gone H.length (k : Int) idx name size root now2 b0 A ca B cb) (by kernel_rfl) hS (fun hHeld => ?_)
  generalize w1.drew = wd at hS hHeld HHH p0 HBD HLT ⊢
  first
  | (refine tkW (i := 0) (v := ?_) rfl rfl ?_ ?_; rotate_left; (focus (intro w hSw; (try dsimp only at hSw); go_simp; first | done | with_reducible rfl)); (simp only [Act.at, setIfInBounds_toArray, set_cons_zero, set_cons_succ]))
  | (refine tkU (i := 0) rfl rfl ?_; (simp only [Act.at, setIfInBounds_toArray, set_cons_zero, set_cons_succ]))
  first
  | (refine tkW (i := 1) (v := ?_) rfl rfl ?_ ?_; rotate_left; (focus (intro w hSw; (try dsimp only at hSw); go_simp; first | done | with_reducible rfl)); (simp only [Act.at, setIfInBounds_toArray, set_cons_zero, set_cons_succ]))
  | (refine tkU (i := 1) rfl rfl ?_; (simp only [Act.at, setIfInBounds_toArray, set_cons_zero, set_cons_succ]))
  first
  | (refine tkW (i := 2) (v := ?_) rfl rfl ?_ ?_; rotate_left; (focus (intro w hSw; (try dsimp only at hSw); go_simp; first | done | with_reducible rfl)); (simp only [Act.at, setIfInBounds_toArray, set_cons_zero, set_cons_succ]))
  | (refine tkU (i := 2) rfl rfl ?_; (simp only [Act.at, setIfInBounds_toArray, set_cons_zero, set_cons_succ]))
  first
  | (refine tkW (i := 4) (v := ?_) rfl rfl ?_ ?_; rotate_left; (focus (intro w hSw; (try dsimp only at hSw); go_simp; first | done | with_reducible rfl)); (simp only [Act.at, setIfInBounds_toArray, set_cons_zero, set_cons_succ]))
  | (refine tkU (i := 4) rfl rfl ?_; (simp only [Act.at, setIfInBounds_toArray, set_cons_zero, set_cons_succ]))
  first
  | (refine tkW (i := 5) (v := ?_) rfl rfl ?_ ?_; rotate_left; (focus (intro w hSw; (try dsimp only at hSw); go_simp; first | done | with_reducible rfl)); (simp only [Act.at, setIfInBounds_toArray, set_cons_zero, set_cons_succ]))
  | (refine tkU (i := 5) rfl rfl ?_; (simp only [Act.at, setIfInBounds_toArray, set_cons_zero, set_cons_succ]))
  first
  | (refine tkW (i := 7) (v := ?_) rfl rfl ?_ ?_; rotate_left; (focus (intro w hSw; (try dsimp only at hSw); go_simp; first | done | with_reducible rfl)); (simp only [Act.at, setIfInBounds_toArray, set_cons_zero, set_cons_succ]))
  | (refine tkU (i := 7) rfl rfl ?_; (simp only [Act.at, setIfInBounds_toArray, set_cons_zero, set_cons_succ]))
  refine takeOne (i := 3) (by kernel_rfl) rfl (by rfl) (fun K hK => ?_)
  go_simp
  refine hK.out _ _ hS (fun hHeld => ?_)
  clear hK K p0
  try simp only [Act.put, setIfInBounds_toArray, set_cons_zero, set_cons_succ]
  try simp only [Act.at, setIfInBounds_toArray, set_cons_zero, set_cons_succ]
  first
  | (refine tkW (i := 6) (v := ?_) rfl rfl ?_ ?_; rotate_left; (focus (intro w hSw; (try dsimp only at hSw); go_simp; first | done | with_reducible rfl)); (simp only [Act.at, setIfInBounds_toArray, set_cons_zero, set_cons_succ]))
  | (refine tkU (i := 6) rfl rfl ?_; (simp only [Act.at, setIfInBounds_toArray, set_cons_zero, set_cons_succ]))
  refine take_call (i := 8) (by kernel_rfl) rfl rfl (by rfl) (fun K hK => ?_)
  go_simp
  refine (HCH.out wd M s HHH.out.1 HM.out pca mb be PB pcb HHH.out.2).mono ?_
  rintro r w2 ⟨rfl, M2, hM2, hst2⟩
  have hmv := hst2.choose_spec.2.1
  have hS2 : EvBoxC kind id cls born slot L.length gone H.length (k : Int) idx name size root now2 b0 A ca B cb w2 := EvBoxC.keep hS (hmv.block b0 HLT.out HQ0.out.2)
  have hst := StStep.from HBD.out hst2
  have HM2 := Lib.hid hM2
  clear hst2 hmv hS hHeld HHH HBD HLT HCH hM2
  refine hK.out _ _ hS2 (fun hHeld => ?_)
  clear hK K
  try simp only [Act.put, setIfInBounds_toArray, set_cons_zero, set_cons_succ]
  refine wpAnyH_done (by kernel_rfl) ?_ _
  clear hS2
  obtain ⟨z4, zf, hfin⟩ := hst.tail
  have HF := Lib.hid hfin
  clear hst hfin
  have hwr : IntKind.i64.wrap ((n : Int) + 1) = (n : Int) + 1 := by rw [IntKind.wrap_i64]; omega
  go_wp2_with fail
  go_ret
  exact ⟨rfl, HF.out.post HU.out (HM2.out)⟩
end
end Go.Proofs.Ytojemaaljjibiaa

namespace Go.Proofs.Ytojemaaljjibiaa
open Go.RowKit
set_option linter.unusedVariables false

section
variable {w : World} {q : Nat} {s ot : List Nat} {st : Sta} {n : Nat}
set_option maxRecDepth 100000 in
set_option maxHeartbeats 16000000 in
theorem stApply6 (h : StAt w q s ot st n) (hI : Sta.Inv st) (hQ : st.Q.length ≤ 1000) (hn : n ≤ 1000) {v : Evt} {A B : Option Addr} {ca cb : Nat} (hin : EntIn w ((q :: s) ++ ot) v.ent A ca B cb) (hf : EvtFew v) (hc : Sta.check st v = 0) (hk : v.kind = 6) :
    Calls Try.prog 13 #[.pointer (some ⟨q, 0, none⟩), v.val A ca B cb] w fun r w' => r = .returned (.int .i64 0) ∧ ApPost w q s ot (Sta.apply st v) (n + 1) w' := by
  have hap : Sta.apply st v = { st with Q := st.Q ++ [⟨v.size, v.root⟩] } := by
    unfold Sta.apply
    rw [if_neg (by omega), if_neg (by omega), if_neg (by omega), if_neg (by omega), if_pos hk]
  rw [hap]
  have HQL := Lib.hid hQ
  have hbv : Below w.heap.size w (w.alloc (.cells #[.int .i64 v.kind, .string (S v.ent.id), .int .i64 v.ent.cls, .int .i64 v.ent.born, .int .i64 v.ent.slot, .slice A v.ent.L.length ca, .bool v.ent.gone, .slice B v.ent.H.length cb, .int .i64 v.seq, .int .i64 v.idx, .string (S v.name), .int .i64 v.size, .string (S v.root), .int .i64 v.now] 37)) := stBox _ _
  have hhv := Has.made w 37 #[.int .i64 v.kind, .string (S v.ent.id), .int .i64 v.ent.cls, .int .i64 v.ent.born, .int .i64 v.ent.slot, .slice A v.ent.L.length ca, .bool v.ent.gone, .slice B v.ent.H.length cb, .int .i64 v.seq, .int .i64 v.idx, .string (S v.name), .int .i64 v.size, .string (S v.root), .int .i64 v.now]
  have hck := stCheck (h.below hbv) hI hQ (EntIn.below (hin.sub (t := []) (by simp)) hbv) hf
  rw [hc] at hck
  have HCK := Lib.hid hck
  have hu := h.ul
  obtain ⟨⟨M, hM, hr0⟩, -⟩ := h
  have hbx : EvBox w.heap.size v A ca B cb (w.alloc (.cells #[.int .i64 v.kind, .string (S v.ent.id), .int .i64 v.ent.cls, .int .i64 v.ent.born, .int .i64 v.ent.slot, .slice A v.ent.L.length ca, .bool v.ent.gone, .slice B v.ent.H.length cb, .int .i64 v.seq, .int .i64 v.idx, .string (S v.name), .int .i64 v.size, .string (S v.root), .int .i64 v.now] 37)) := ⟨hhv.cell 0, hhv.cell 1, hhv.cell 2, hhv.cell 3, hhv.cell 4, hhv.cell 5, hhv.cell 6, hhv.cell 7, hhv.cell 8, hhv.cell 9, hhv.cell 10, hhv.cell 11, hhv.cell 12, hhv.cell 13⟩
  have hblt := hhv.lt
  have hbq : w.heap.size ∉ q :: s := fun hx => by have := hr0.ltAll _ hx; omega
  have hrw := hr0.mid hbv
  have HU := Lib.hid hu
  have HM := Lib.hid hM
  clear hap
  clear hhv hck hin hf hI hQ hu hM hr0
  unfold Evt.val at HCK ⊢
  obtain ⟨kind, ⟨id, cls, born, slot, L, gone, H⟩, seq, idx, name, size, root, now2⟩ := v
  dsimp only at *
  subst hk
  go_enter Try.func13, Try.ntmps13
  go_upto_region 1 with fail
  generalize w.alloc (.cells #[.int .i64 6, .string (S id), .int .i64 cls, .int .i64 born, .int .i64 slot, .slice A L.length ca, .bool gone, .slice B H.length cb, .int .i64 seq, .int .i64 idx, .string (S name), .int .i64 size, .string (S root), .int .i64 now2] 37) = W0 at HCK hbx hbv hblt hrw ⊢
  obtain ⟨b0, hq0⟩ : ∃ b0, w.heap.size = b0 := ⟨_, rfl⟩
  rw [hq0] at hbx hblt hbq ⊢
  have HQ0 := Lib.hid (And.intro hq0 hbq)
  have HB := Lib.hid hbv
  have HBX := Lib.hid (And.intro hblt hbx)
  have HRW := Lib.hid hrw
  obtain ⟨y0, y1, y2, y3, y4, y5, y6, y7, y8, y9, y10, y11, y12, y13⟩ := hbx
  clear hbv hrw hq0 hblt hbq
  go_wp2_with fail
  refine HCK.out.mono ?_
  rintro r w1 ⟨rfl, hb1⟩
  have HB1 := Lib.hid (HB.out.trans (hb1.mono HB.out.size))
  have HR1 := Lib.hid (HRW.out.mid hb1)
  have hbx1 := EvBox.below (v := ⟨6, ⟨id, cls, born, slot, L, gone, H⟩, seq, idx, name, size, root, now2⟩) HBX.out.2 hb1 HBX.out.1
  have hblt1 : b0 < w1.heap.size := Nat.lt_of_lt_of_le HBX.out.1 hb1.size
  clear hb1 HB HRW HBX HCK y0 y1 y2 y3 y4 y5 y6 y7 y8 y9 y10 y11 y12 y13
  have HBX1 := Lib.hid (And.intro hblt1 hbx1)
  obtain ⟨y0, y1, y2, y3, y4, y5, y6, y7, y8, y9, y10, y11, y12, y13⟩ := hbx1
  dsimp only at y0 y1 y2 y3 y4 y5 y6 y7 y8 y9 y10 y11 y12 y13
  obtain ⟨PA, pca, mb, PB, pcb, hh, hca, hcb, -, -, hsq⟩ := HR1.out.reads
  have hrow : w1.drew.ownsRow 0 35 2 (.slice PB st.Q.length pcb) st.Q.length (qcs st.Q) := by
    obtain ⟨A', ca', mb', B', cb', h1', _, h3, _⟩ := HR1.out.ex
    have e2 : (some (Value.slice PB st.Q.length pcb)) = some (Value.slice B' st.Q.length cb') := (hh.cell 2).symm.trans (h1'.cell 2)
    injection e2 with e2; injection e2 with e2 _ e2'
    subst e2 e2'
    exact h3
  have HBN : Hid (∀ j, (Value.slice PB st.Q.length pcb).ownBlock = some j → j ∈ q :: s) := Lib.hid (fun j hj => by
    obtain ⟨A', ca', mb', B', cb', h1', _, h3, _, hs⟩ := HR1.out.ex
    have e2 : (some (Value.slice PB st.Q.length pcb)) = some (Value.slice B' st.Q.length cb') := (hh.cell 2).symm.trans (h1'.cell 2)
    injection e2 with e2; injection e2 with e2 _ e2'
    subst e2 e2'
    exact List.mem_cons_of_mem _ (by rw [hs, hj]; simp))
  have HQN : Hid (∀ j, (Value.slice PB st.Q.length pcb).ownBlock = some j → j ≠ q) := Lib.hid (fun j hj e => by
    obtain ⟨A', ca', mb', B', cb', h1', _, h3, _, hs⟩ := HR1.out.ex
    have e2 : (some (Value.slice PB st.Q.length pcb)) = some (Value.slice B' st.Q.length cb') := (hh.cell 2).symm.trans (h1'.cell 2)
    injection e2 with e2; injection e2 with e2 _ e2'
    subst e2 e2' e
    exact (List.nodup_cons.1 HR1.out.nd).1 (by rw [hs, hj]; simp))
  have HHH := Lib.hid (And.intro (HR1.out.mid (Below.refl _ w1).drew) (And.intro (show Has w1.drew q _ _ from hh) hrow))
  have p2 : w1.drew.cell? ⟨q, 2, none⟩ = some (.slice PB st.Q.length pcb) := hh.cell 2
  have HP2 := Lib.hid p2
  have HBD := Lib.hid HB1.out.drew
  have HLT : Hid (b0 < w1.drew.heap.size) := Lib.hid HBX1.out.1
  clear hh hsq hca hcb HR1 HBX1 HB1 hrow p2
  go_upto_region 10 with fail
  have hS : EvBoxC 6 id cls born slot L.length gone H.length seq idx name size root now2 b0 A ca B cb w1.drew := ⟨y0, y1, y2, y3, y4, y5, y6, y7, y8, y9, y10, y11, y12, y13⟩
  clear y0 y1 y2 y3 y4 y5 y6 y7 y8 y9 y10 y11 y12 y13
  refine wp_region_held_drew (S := EvBoxC 6 id cls born slot L.length gone H.length seq idx name size root now2 b0 A ca B cb) (by kernel_rfl) hS (fun hHeld => ?_)
  generalize w1.drew = wd at hS hHeld HHH HP2 HBD HLT ⊢
  first
  | (refine tkW (i := 0) (v := ?_) rfl rfl ?_ ?_; rotate_left; (focus (intro w hSw; (try dsimp only at hSw); go_simp; first | done | with_reducible rfl)); (simp only [Act.at, setIfInBounds_toArray, set_cons_zero, set_cons_succ]))
  | (refine tkU (i := 0) rfl rfl ?_; (simp only [Act.at, setIfInBounds_toArray, set_cons_zero, set_cons_succ]))
  first
  | (refine tkW (i := 1) (v := ?_) rfl rfl ?_ ?_; rotate_left; (focus (intro w hSw; (try dsimp only at hSw); go_simp; first | done | with_reducible rfl)); (simp only [Act.at, setIfInBounds_toArray, set_cons_zero, set_cons_succ]))
  | (refine tkU (i := 1) rfl rfl ?_; (simp only [Act.at, setIfInBounds_toArray, set_cons_zero, set_cons_succ]))
  first
  | (refine tkW (i := 2) (v := ?_) rfl rfl ?_ ?_; rotate_left; (focus (intro w hSw; (try dsimp only at hSw); go_simp; first | done | with_reducible rfl)); (simp only [Act.at, setIfInBounds_toArray, set_cons_zero, set_cons_succ]))
  | (refine tkU (i := 2) rfl rfl ?_; (simp only [Act.at, setIfInBounds_toArray, set_cons_zero, set_cons_succ]))
  first
  | (refine tkW (i := 3) (v := ?_) rfl rfl ?_ ?_; rotate_left; (focus (intro w hSw; (try dsimp only at hSw); go_simp; first | done | with_reducible rfl)); (simp only [Act.at, setIfInBounds_toArray, set_cons_zero, set_cons_succ]))
  | (refine tkU (i := 3) rfl rfl ?_; (simp only [Act.at, setIfInBounds_toArray, set_cons_zero, set_cons_succ]))
  first
  | (refine tkW (i := 5) (v := ?_) rfl rfl ?_ ?_; rotate_left; (focus (intro w hSw; (try dsimp only at hSw); go_simp; first | done | with_reducible rfl)); (simp only [Act.at, setIfInBounds_toArray, set_cons_zero, set_cons_succ]))
  | (refine tkU (i := 5) rfl rfl ?_; (simp only [Act.at, setIfInBounds_toArray, set_cons_zero, set_cons_succ]))
  first
  | (refine tkW (i := 6) (v := ?_) rfl rfl ?_ ?_; rotate_left; (focus (intro w hSw; (try dsimp only at hSw); go_simp; first | done | with_reducible rfl)); (simp only [Act.at, setIfInBounds_toArray, set_cons_zero, set_cons_succ]))
  | (refine tkU (i := 6) rfl rfl ?_; (simp only [Act.at, setIfInBounds_toArray, set_cons_zero, set_cons_succ]))
  refine takeTwo (i := 4) (j := 7) (by kernel_rfl) rfl rfl (by rfl) (by rfl) (fun K hK => ?_) (fun K hK => ?_)
  · have hsl := HP2.out
    go_simp
    refine hK.out _ _ hS (fun hHeld => ?_)
    clear hK K hsl
    try simp only [Act.put, setIfInBounds_toArray, set_cons_zero, set_cons_succ]
    refine takeOne (i := 7) (by kernel_rfl) rfl (by rfl) (fun K hK => ?_)
    go_simp
    have hba := stBox wd (.cells #[.int .i64 size, .string (S root)] 35)
    have hS2 : EvBoxC 6 id cls born slot L.length gone H.length seq idx name size root now2 b0 A ca B cb (wd.alloc (.cells #[.int .i64 size, .string (S root)] 35)) := EvBoxC.keep hS (hba.block b0 HLT.out)
    have HMD := Lib.hid (ptMade wd ⟨size, root⟩)
    have HR2 := Lib.hid (And.intro (HHH.out.1.mid hba) (And.intro (HHH.out.2.1.below hba HHH.out.2.1.lt) (HHH.out.2.2.alloc (.cells #[.int .i64 size, .string (S root)] 35))))
    have HB2 := Lib.hid (HBD.out.trans (hba.mono HBD.out.size))
    have HLT2 : Hid (b0 < (wd.alloc (.cells #[.int .i64 size, .string (S root)] 35)).heap.size) := Lib.hid (Nat.lt_of_lt_of_le HLT.out hba.size)
    refine hK.out _ _ hS2 (fun hHeld => ?_)
    clear hK K
    try simp only [Act.put, setIfInBounds_toArray, set_cons_zero, set_cons_succ]
    clear hS HHH HBD hba
    obtain ⟨ab, hab⟩ : ∃ ab, wd.heap.size = ab := ⟨_, rfl⟩
    rw [hab] at HMD ⊢
    clear hab
    generalize wd.alloc (.cells #[.int .i64 size, .string (S root)] 35) = W2 at hS2 hHeld HMD HR2 HB2 HLT2 ⊢
    refine takeOne (i := 8) (by kernel_rfl) rfl (by rfl) (fun K hK => ?_)
    refine wp_pt_append (.tmp 55) (.tmp 58) rfl 59 rfl (.slice PB st.Q.length pcb) st.Q.length st.Q rfl HR2.out.2.2 ⟨ab, 0, none⟩ ⟨size, root⟩ rfl HMD.out (by have := HQL.out; omega) ?_
    intro g cap w3 hown3 hg3 hgb3 hlt3
    have hst := HR2.out.1.pushQ HR2.out.2.1 hown3 hg3 (hgb3.imp (fun h => h) (fun h => Nat.le_of_eq h.symm))
    have hgb0 : (Value.slice PB st.Q.length pcb).ownBlock ≠ some b0 := fun e => HQ0.out.2 (HBN.out b0 e)
    have hgq : (Value.slice PB st.Q.length pcb).ownBlock ≠ some q := fun e => HQN.out q e rfl
    have hb0q : b0 ≠ q := fun e => HQ0.out.2 (e ▸ List.mem_cons_self ..)
    have hq3 : Has w3 q 58 #[.slice PA M.length pca, .map (some mb), .slice PB st.Q.length pcb, .int .i64 st.now, .int .i64 (n : Int)] := (hg3.block q HR2.out.2.1.lt (fun e => hgq e.symm)).trans HR2.out.2.1
    have p3 := hq3.cell 2
    have f3 := hq3.free 2
    have hS3 : EvBoxC 6 id cls born slot L.length gone H.length seq idx name size root now2 b0 A ca B cb w3 := EvBoxC.keep hS2 (hg3.block b0 HLT2.out (fun e => hgb0 e.symm))
    have hS4 : EvBoxC 6 id cls born slot L.length gone H.length seq idx name size root now2 b0 A ca B cb (w3.setCell ⟨q, 2, none⟩ (.slice (some ⟨g, 0, none⟩) (st.Q.length + 1) cap)) := EvBoxC.keep hS3 (Below.heap_setCell w3 ⟨q, 2, none⟩ _ b0 hb0q)
    have hst := StStep.from HB2.out hst
    clear hown3 hg3 hgb3 hlt3 HR2 HMD HB2 hgb0 hgq hb0q hq3 HLT2
    refine hK.out _ _ hS3 (fun hHeld => ?_)
    clear hK K
    try simp only [Act.put, setIfInBounds_toArray, set_cons_zero, set_cons_succ]
    try simp only [Act.at, setIfInBounds_toArray, set_cons_zero, set_cons_succ]
    first
    | (refine tkW (i := 9) (v := ?_) rfl rfl ?_ ?_; rotate_left; (focus (intro w hSw; (try dsimp only at hSw); go_simp; first | done | with_reducible rfl)); (simp only [Act.at, setIfInBounds_toArray, set_cons_zero, set_cons_succ]))
    | (refine tkU (i := 9) rfl rfl ?_; (simp only [Act.at, setIfInBounds_toArray, set_cons_zero, set_cons_succ]))
    first
    | (refine tkW (i := 10) (v := ?_) rfl rfl ?_ ?_; rotate_left; (focus (intro w hSw; (try dsimp only at hSw); go_simp; first | done | with_reducible rfl)); (simp only [Act.at, setIfInBounds_toArray, set_cons_zero, set_cons_succ]))
    | (refine tkU (i := 10) rfl rfl ?_; (simp only [Act.at, setIfInBounds_toArray, set_cons_zero, set_cons_succ]))
    refine takeOne (i := 11) (by kernel_rfl) rfl (by rfl) (fun K hK => ?_)
    go_simp
    refine hK.out _ _ hS4 (fun hHeld => ?_)
    clear hK K
    try simp only [Act.put, setIfInBounds_toArray, set_cons_zero, set_cons_succ]
    refine wpAnyH_done (by kernel_rfl) ?_ _
    clear p3 f3 hS3 hS4 hHeld hS2
    generalize w3.setCell ⟨q, 2, none⟩ (.slice (some ⟨g, 0, none⟩) (st.Q.length + 1) cap) = w4 at hst ⊢
    obtain ⟨z4, zf, hfin⟩ := hst.tail
    have HF := Lib.hid hfin
    clear hst hfin
    have hwr : IntKind.i64.wrap ((n : Int) + 1) = (n : Int) + 1 := by rw [IntKind.wrap_i64]; omega
    go_wp2_with fail
    go_ret
    exact ⟨rfl, HF.out.post HU.out (HM.out)⟩
  · go_simp
    have hba := stBox wd (.cells #[.int .i64 size, .string (S root)] 35)
    have hS2 : EvBoxC 6 id cls born slot L.length gone H.length seq idx name size root now2 b0 A ca B cb (wd.alloc (.cells #[.int .i64 size, .string (S root)] 35)) := EvBoxC.keep hS (hba.block b0 HLT.out)
    have HMD := Lib.hid (ptMade wd ⟨size, root⟩)
    have HR2 := Lib.hid (And.intro (HHH.out.1.mid hba) (And.intro (HHH.out.2.1.below hba HHH.out.2.1.lt) (HHH.out.2.2.alloc (.cells #[.int .i64 size, .string (S root)] 35))))
    have HB2 := Lib.hid (HBD.out.trans (hba.mono HBD.out.size))
    have HLT2 : Hid (b0 < (wd.alloc (.cells #[.int .i64 size, .string (S root)] 35)).heap.size) := Lib.hid (Nat.lt_of_lt_of_le HLT.out hba.size)
    have HX2 := Lib.hid (HR2.out.2.1.cell 2)
    refine hK.out _ _ hS2 (fun hHeld => ?_)
    clear hK K
    try simp only [Act.put, setIfInBounds_toArray, set_cons_zero, set_cons_succ]
    clear hS HHH HBD hba
    obtain ⟨ab, hab⟩ : ∃ ab, wd.heap.size = ab := ⟨_, rfl⟩
    rw [hab] at HMD ⊢
    clear hab
    generalize wd.alloc (.cells #[.int .i64 size, .string (S root)] 35) = W2 at hS2 hHeld HMD HR2 HB2 HLT2 HX2 ⊢
    refine takeOne (i := 4) (by kernel_rfl) rfl (by rfl) (fun K hK => ?_)
    have hsl := HX2.out
    go_simp
    refine hK.out _ _ hS2 (fun hHeld => ?_)
    clear hK K hsl HX2
    try simp only [Act.put, setIfInBounds_toArray, set_cons_zero, set_cons_succ]
    refine takeOne (i := 8) (by kernel_rfl) rfl (by rfl) (fun K hK => ?_)
    refine wp_pt_append (.tmp 55) (.tmp 58) rfl 59 rfl (.slice PB st.Q.length pcb) st.Q.length st.Q rfl HR2.out.2.2 ⟨ab, 0, none⟩ ⟨size, root⟩ rfl HMD.out (by have := HQL.out; omega) ?_
    intro g cap w3 hown3 hg3 hgb3 hlt3
    have hst := HR2.out.1.pushQ HR2.out.2.1 hown3 hg3 (hgb3.imp (fun h => h) (fun h => Nat.le_of_eq h.symm))
    have hgb0 : (Value.slice PB st.Q.length pcb).ownBlock ≠ some b0 := fun e => HQ0.out.2 (HBN.out b0 e)
    have hgq : (Value.slice PB st.Q.length pcb).ownBlock ≠ some q := fun e => HQN.out q e rfl
    have hb0q : b0 ≠ q := fun e => HQ0.out.2 (e ▸ List.mem_cons_self ..)
    have hq3 : Has w3 q 58 #[.slice PA M.length pca, .map (some mb), .slice PB st.Q.length pcb, .int .i64 st.now, .int .i64 (n : Int)] := (hg3.block q HR2.out.2.1.lt (fun e => hgq e.symm)).trans HR2.out.2.1
    have p3 := hq3.cell 2
    have f3 := hq3.free 2
    have hS3 : EvBoxC 6 id cls born slot L.length gone H.length seq idx name size root now2 b0 A ca B cb w3 := EvBoxC.keep hS2 (hg3.block b0 HLT2.out (fun e => hgb0 e.symm))
    have hS4 : EvBoxC 6 id cls born slot L.length gone H.length seq idx name size root now2 b0 A ca B cb (w3.setCell ⟨q, 2, none⟩ (.slice (some ⟨g, 0, none⟩) (st.Q.length + 1) cap)) := EvBoxC.keep hS3 (Below.heap_setCell w3 ⟨q, 2, none⟩ _ b0 hb0q)
    have hst := StStep.from HB2.out hst
    clear hown3 hg3 hgb3 hlt3 HR2 HMD HB2 hgb0 hgq hb0q hq3 HLT2
    refine hK.out _ _ hS3 (fun hHeld => ?_)
    clear hK K
    try simp only [Act.put, setIfInBounds_toArray, set_cons_zero, set_cons_succ]
    try simp only [Act.at, setIfInBounds_toArray, set_cons_zero, set_cons_succ]
    first
    | (refine tkW (i := 9) (v := ?_) rfl rfl ?_ ?_; rotate_left; (focus (intro w hSw; (try dsimp only at hSw); go_simp; first | done | with_reducible rfl)); (simp only [Act.at, setIfInBounds_toArray, set_cons_zero, set_cons_succ]))
    | (refine tkU (i := 9) rfl rfl ?_; (simp only [Act.at, setIfInBounds_toArray, set_cons_zero, set_cons_succ]))
    first
    | (refine tkW (i := 10) (v := ?_) rfl rfl ?_ ?_; rotate_left; (focus (intro w hSw; (try dsimp only at hSw); go_simp; first | done | with_reducible rfl)); (simp only [Act.at, setIfInBounds_toArray, set_cons_zero, set_cons_succ]))
    | (refine tkU (i := 10) rfl rfl ?_; (simp only [Act.at, setIfInBounds_toArray, set_cons_zero, set_cons_succ]))
    refine takeOne (i := 11) (by kernel_rfl) rfl (by rfl) (fun K hK => ?_)
    go_simp
    refine hK.out _ _ hS4 (fun hHeld => ?_)
    clear hK K
    try simp only [Act.put, setIfInBounds_toArray, set_cons_zero, set_cons_succ]
    refine wpAnyH_done (by kernel_rfl) ?_ _
    clear p3 f3 hS3 hS4 hHeld hS2
    generalize w3.setCell ⟨q, 2, none⟩ (.slice (some ⟨g, 0, none⟩) (st.Q.length + 1) cap) = w4 at hst ⊢
    obtain ⟨z4, zf, hfin⟩ := hst.tail
    have HF := Lib.hid hfin
    clear hst hfin
    have hwr : IntKind.i64.wrap ((n : Int) + 1) = (n : Int) + 1 := by rw [IntKind.wrap_i64]; omega
    go_wp2_with fail
    go_ret
    exact ⟨rfl, HF.out.post HU.out (HM.out)⟩
end
end Go.Proofs.Ytojemaaljjibiaa
