/-
  The program's state: Apply, where a paper comes.
-/
import Derived.Test.YtojemaaljjibiaaPQRS
open List (setIfInBounds_toArray set_cons_zero set_cons_succ)
namespace Go.Proofs.Ytojemaaljjibiaa
open Go.RowKit
set_option linter.unusedVariables false

/-- What Apply reads ahead of a paper. -/
abbrev ApS (PA : Option Addr) (ln pca mb q : Nat) (id : List UInt8) (cls born slot : Int) (ll : Nat) (gone : Bool) (hl : Nat) (seq idx : Int) (name : List UInt8) (size : Int) (root : List UInt8) (now : Int) (b0 : Nat) (A : Option Addr) (ca : Nat) (B : Option Addr) (cb : Nat) (W : World) : Prop :=
  W.cell? ⟨q, 0, none⟩ = some (.slice PA ln pca) ∧ W.cell? ⟨q, 1, none⟩ = some (.map (some mb)) ∧ EvBoxC 1 id cls born slot ll gone hl seq idx name size root now b0 A ca B cb W
theorem Only.drew {w w' : World} {g : Nat} (h : Only w w' g) : Only w w'.drew g := ⟨h.os, h.tape, h.output, h.size, h.block⟩
section
variable {w : World} {q : Nat} {s ot : List Nat} {st : Sta} {n : Nat}
/-- Where the state's map and rows lie. -/
theorem StRep.where_ {M : List EntX} {Q : List Pt} {now : Int} (h : StRep w q s M Q now n) {PA : Option Addr} {pca mb : Nat} {PB : Option Addr} {pcb : Nat} (h1 : Has w q 58 #[.slice PA M.length pca, .map (some mb), .slice PB Q.length pcb, .int .i64 now, .int .i64 (n : Int)]) : mb ∈ s ∧ (∀ j, (Value.slice PA M.length pca).ownBlock = some j → j ∈ s ∧ j ≠ mb) ∧ SeqM w mb (ids M) ∧ q ∉ s := by
  have hnd := h.nd
  obtain ⟨A', ca', mb', B', cb', h1', h2, h3, h4, hs⟩ := h.ex
  have e0 : (some (Value.slice PA M.length pca)) = some (Value.slice A' M.length ca') := (h1.cell 0).symm.trans (h1'.cell 0)
  have e1 : (some (Value.map (some mb))) = some (Value.map (some mb')) := (h1.cell 1).symm.trans (h1'.cell 1)
  injection e0 with e0; injection e0 with e0 _ e0'
  injection e1 with e1; injection e1 with e1; injection e1 with e1
  subst e0 e0' e1
  have hsn := (List.nodup_cons.1 hnd).2
  rw [hs] at hsn
  obtain ⟨n1, n2, n3⟩ := List.nodup_append.1 hsn
  exact ⟨by rw [hs]; simp, fun j hj => ⟨by rw [hs, hj]; simp, fun e => n3 j (Option.mem_toList.2 hj) mb (by simp) e⟩, h4, (List.nodup_cons.1 hnd).1⟩
set_option maxRecDepth 100000 in
set_option maxHeartbeats 16000000 in
theorem stApply1 (h : StAt w q s ot st n) (hI : Sta.Inv st) (hQ : st.Q.length ≤ 1000) (hn : n ≤ 1000) {v : Evt} {A B : Option Addr} {ca cb : Nat} (hin : EntIn w ((q :: s) ++ ot) v.ent A ca B cb) (hf : EvtFew v) (hc : Sta.check st v = 0) (hk : v.kind = 1) :
    Calls Try.prog 13 #[.pointer (some ⟨q, 0, none⟩), v.val A ca B cb] w fun r w' => r = .returned (.int .i64 0) ∧ ApPost w q s ot (Sta.apply st v) (n + 1) w' := by
  have hap : Sta.apply st v = { st with P := st.P ++ [v.ent] } := by
    unfold Sta.apply
    rw [if_pos hk]
  rw [hap]
  have hr : Ev.right v = true := by
    cases hq : Ev.right v with
    | true => rfl
    | false => exact absurd ((Sta.check_ways st v 0 hc).1 hq) (by decide)
  have hpc := (Sta.check_ways st v 0 hc).2.1 hr hk
  have hnid : v.ent.id ∉ st.P.map Ent.id := fun hx => by
    obtain ⟨e, he, e2⟩ := List.mem_map.1 hx
    unfold Sta.paperC at hpc
    rw [if_pos (Sta.hasId_iff.2 ⟨e, he, e2⟩)] at hpc
    exact absurd hpc (by decide)
  have hP64 := hI.few
  have hent : Ev.entR v.ent = true := by rw [Ev.right1 hk] at hr; exact hr
  have hLH : v.ent.L.length ≤ 1000 ∧ v.ent.H.length ≤ 1000 := by have := Ev.entR_iff.1 hent; omega
  have HCL := Lib.hid (fun (W : World) (he : EntIn W [] v.ent A ca B cb) => cleanP_any he hk hLH.1 hLH.2)
  have HEV := Lib.hid hin
  have hidl := hf.e.id
  unfold Evt.val at HCL
  have hbv : Below w.heap.size w (w.alloc (.cells #[.int .i64 v.kind, .string (S v.ent.id), .int .i64 v.ent.cls, .int .i64 v.ent.born, .int .i64 v.ent.slot, .slice A v.ent.L.length ca, .bool v.ent.gone, .slice B v.ent.H.length cb, .int .i64 v.seq, .int .i64 v.idx, .string (S v.name), .int .i64 v.size, .string (S v.root), .int .i64 v.now] 37)) := stBox _ _
  have hhv := Has.made w 37 #[.int .i64 v.kind, .string (S v.ent.id), .int .i64 v.ent.cls, .int .i64 v.ent.born, .int .i64 v.ent.slot, .slice A v.ent.L.length ca, .bool v.ent.gone, .slice B v.ent.H.length cb, .int .i64 v.seq, .int .i64 v.idx, .string (S v.name), .int .i64 v.size, .string (S v.root), .int .i64 v.now]
  have hck := stCheck (h.below hbv) hI hQ (EntIn.below (hin.sub (t := []) (by simp)) hbv) hf
  rw [hc] at hck
  have HCK := Lib.hid hck
  have hu := h.ul
  obtain ⟨⟨M, hM, hr0⟩, -⟩ := h
  have hbx : EvBox w.heap.size v A ca B cb (w.alloc (.cells #[.int .i64 v.kind, .string (S v.ent.id), .int .i64 v.ent.cls, .int .i64 v.ent.born, .int .i64 v.ent.slot, .slice A v.ent.L.length ca, .bool v.ent.gone, .slice B v.ent.H.length cb, .int .i64 v.seq, .int .i64 v.idx, .string (S v.name), .int .i64 v.size, .string (S v.root), .int .i64 v.now] 37)) := ⟨hhv.cell 0, hhv.cell 1, hhv.cell 2, hhv.cell 3, hhv.cell 4, hhv.cell 5, hhv.cell 6, hhv.cell 7, hhv.cell 8, hhv.cell 9, hhv.cell 10, hhv.cell 11, hhv.cell 12, hhv.cell 13⟩
  have hblt := hhv.lt
  have hbq : w.heap.size ∉ q :: s := fun hx => by have := hr0.ltAll _ hx; omega
  have hrw := hr0.mid hbv
  have HU := Lib.hid hu
  have HM := Lib.hid hM
  clear hap hr hpc hent hLH
  clear hhv hck hin hf hI hQ hu hM hr0
  unfold Evt.val at HCK ⊢
  obtain ⟨kind, ⟨id, cls, born, slot, L, gone, H⟩, seq, idx, name, size, root, now2⟩ := v
  dsimp only at *
  subst hk
  go_enter Try.func13, Try.ntmps13
  go_upto_region 1 with fail
  generalize w.alloc (.cells #[.int .i64 1, .string (S id), .int .i64 cls, .int .i64 born, .int .i64 slot, .slice A L.length ca, .bool gone, .slice B H.length cb, .int .i64 seq, .int .i64 idx, .string (S name), .int .i64 size, .string (S root), .int .i64 now2] 37) = W0 at HCK hbx hbv hblt hrw ⊢
  obtain ⟨b0, hq0⟩ : ∃ b0, w.heap.size = b0 := ⟨_, rfl⟩
  rw [hq0] at hbx hblt hbq ⊢
  have HQ0 := Lib.hid (And.intro hq0 hbq)
  have HB := Lib.hid hbv
  have HBX := Lib.hid (And.intro hblt hbx)
  have HRW := Lib.hid hrw
  obtain ⟨y0, y1, y2, y3, y4, y5, y6, y7, y8, y9, y10, y11, y12, y13⟩ := hbx
  clear hbv hrw hq0 hblt hbq
  go_wp2_with fail
  refine HCK.out.mono ?_
  rintro r w1 ⟨rfl, hb1⟩
  have HB1 := Lib.hid (HB.out.trans (hb1.mono HB.out.size))
  have HR1 := Lib.hid (HRW.out.mid hb1)
  have hbx1 := EvBox.below (v := ⟨1, ⟨id, cls, born, slot, L, gone, H⟩, seq, idx, name, size, root, now2⟩) HBX.out.2 hb1 HBX.out.1
  have hblt1 : b0 < w1.heap.size := Nat.lt_of_lt_of_le HBX.out.1 hb1.size
  clear hb1 HB HRW HBX HCK y0 y1 y2 y3 y4 y5 y6 y7 y8 y9 y10 y11 y12 y13
  have HBX1 := Lib.hid (And.intro hblt1 hbx1)
  obtain ⟨y0, y1, y2, y3, y4, y5, y6, y7, y8, y9, y10, y11, y12, y13⟩ := hbx1
  dsimp only at y0 y1 y2 y3 y4 y5 y6 y7 y8 y9 y10 y11 y12 y13
  obtain ⟨PA, pca, mb, PB, pcb, hh, hca, hcb, -, -, hsq⟩ := HR1.out.reads
  have hlM : M.length = st.P.length := by rw [← HM.out, List.length_map]
  have HLN : Hid (M.length ≤ 1000000) := Lib.hid (by omega)
  obtain ⟨wh1, wh2, wh3, wh4⟩ := HR1.out.where_ hh
  have hidm : id ∉ ids M := by rw [ids_of HM.out]; exact hnid
  have hqm : q ≠ mb := fun e => wh4 (e ▸ wh1)
  have hbm : b0 ≠ mb := fun e => HQ0.out.2 (e ▸ List.mem_cons_of_mem _ wh1)
  have hput := (wh3.keep (show w1.drew.heap[mb]? = w1.heap[mb]? from rfl)).put id (by rw [ids_of HM.out, List.length_map]; omega) (by simp only [maxLen]; omega) hidm
  rw [show (ids M).length = M.length from by unfold ids; rw [List.length_map]] at hput
  obtain ⟨w2, hrun, hsq2, hon2⟩ := hput
  have HHH := Lib.hid (And.intro (HR1.out.mid (Below.refl _ w1).drew) (show Has w1.drew q _ _ from hh))
  have HWH := Lib.hid (And.intro wh2 wh4)
  have hq2 : Has w2 q 58 #[.slice PA M.length pca, .map (some mb), .slice PB st.Q.length pcb, .int .i64 st.now, .int .i64 (n : Int)] := hon2.has (show Has w1.drew q _ _ from hh) hqm
  have hS : ApS PA M.length pca mb q id cls born slot L.length gone H.length seq idx name size root now2 b0 A ca B cb w1.drew := ⟨hh.cell 0, hh.cell 1, y0, y1, y2, y3, y4, y5, y6, y7, y8, y9, y10, y11, y12, y13⟩
  have hbk2 : w2.heap[b0]? = w1.drew.heap[b0]? := hon2.block b0 HBX1.out.1 (fun e => hbm (by injection e))
  have hS2 : ApS PA M.length pca mb q id cls born slot L.length gone H.length seq idx name size root now2 b0 A ca B cb w2 := ⟨hq2.cell 0, hq2.cell 1, EvBoxC.keep hS.2.2 hbk2⟩
  have HBD := Lib.hid HB1.out.drew
  have HLT : Hid (b0 < w2.heap.size) := Lib.hid (Nat.lt_of_lt_of_le HBX1.out.1 hon2.size)
  have HE : Hid (EntIn w2.drew [] ⟨id, cls, born, slot, L, gone, H⟩ A ca B cb) := Lib.hid ((((HEV.out.below HB1.out.drew).mv (Mv.of_only hon2 (s := [mb]) (by simp)) (fun z hz => by
    rw [List.mem_singleton.1 hz]
    exact List.mem_append.2 (Or.inl (List.mem_cons_of_mem _ wh1)))).sub (t := []) (by simp)).below (Below.refl _ w2).drew)
  have HQC : Hid (∀ W, Below w2.drew.heap.size w2.drew W → W.cell? ⟨q, 0, none⟩ = some (.slice PA M.length pca)) := Lib.hid (fun W hb => (hb.cell (p := ⟨q, 0, none⟩) hq2.lt).trans (hq2.cell 0))
  have HROW : Hid (∀ W, Below w2.drew.heap.size w2.drew W → W.ownsRow 0 33 7 (.slice PA M.length pca) M.length (xcs M)) := Lib.hid (fun W hb => own_keepB (HHH.out.1.rowX HHH.out.2) (fun g hg => (hb.block g (Nat.lt_of_lt_of_le ((HHH.out.1.rowX HHH.out.2).lt g hg).2 hon2.size)).trans (hon2.block g ((HHH.out.1.rowX HHH.out.2).lt g hg).2 (fun e => (HWH.out.1 g hg).2 (by injection e)))))
  have HPUSH : Hid (∀ (W5 w6 : World) (x : EntX) (g cap : Nat), x.e.id = id → Below w2.drew.heap.size w2.drew W5 → NewX w2.drew.heap.size W5 x → w6.ownsRow 0 33 7 (.slice (some ⟨g, 0, none⟩) (M.length + 1) cap) (M.length + 1) (xcs (M ++ [x])) → W5.grownBy w6 (Value.slice PA M.length pca).ownBlock → ((Value.slice PA M.length pca).ownBlock = some g ∨ W5.heap.size ≤ g) →
      StStep w q s (M ++ [x]) st.Q st.now n (w6.setCell ⟨q, 0, none⟩ (.slice (some ⟨g, 0, none⟩) (M.length + 1) cap)) ∧ Has w6 q 58 #[.slice PA M.length pca, .map (some mb), .slice PB st.Q.length pcb, .int .i64 st.now, .int .i64 (n : Int)] ∧
      (EvBoxC 1 id cls born slot L.length gone H.length seq idx name size root now2 b0 A ca B cb W5 → EvBoxC 1 id cls born slot L.length gone H.length seq idx name size root now2 b0 A ca B cb w6) ∧
      (EvBoxC 1 id cls born slot L.length gone H.length seq idx name size root now2 b0 A ca B cb w6 → EvBoxC 1 id cls born slot L.length gone H.length seq idx name size root now2 b0 A ca B cb (w6.setCell ⟨q, 0, none⟩ (.slice (some ⟨g, 0, none⟩) (M.length + 1) cap)))) := Lib.hid (fun W5 w6 x g cap hx hb hN ho hg hgb => by
    have hqA : (Value.slice PA M.length pca).ownBlock ≠ some q := fun e => HWH.out.2 (HWH.out.1 q e).1
    have hbA : (Value.slice PA M.length pca).ownBlock ≠ some b0 := fun e => HQ0.out.2 (List.mem_cons_of_mem _ (HWH.out.1 b0 e).1)
    have hst := HHH.out.1.pushP HHH.out.2 (Only.drew hon2) (by rw [hx]; exact hsq2.keep rfl) hb hN ho hg hgb
    refine ⟨StStep.from HBD.out hst, (hg.block q (Nat.lt_of_lt_of_le hq2.lt hb.size) (fun e => hqA e.symm)).trans ((hb.block q hq2.lt).trans hq2), fun h5 => EvBoxC.keep h5 (hg.block b0 (Nat.lt_of_lt_of_le HLT.out hb.size) (fun e => hbA e.symm)), fun h6 => EvBoxC.keep h6 (Below.heap_setCell w6 ⟨q, 0, none⟩ _ b0 (fun e => HQ0.out.2 ((show b0 = q from e) ▸ List.mem_cons_self ..)))⟩)
  have HRUN := Lib.hid hrun
  clear hh hsq hca hcb HR1 HBX1 HB1 hnid hidl hlM wh1 wh2 wh3 wh4 hidm hqm hbm hrun hsq2 hon2 hq2 hbk2 HEV HHH HBD
  go_upto_region 7 with fail
  clear y0 y1 y2 y3 y4 y5 y6 y7 y8 y9 y10 y11 y12 y13
  refine wp_region_held_drew (S := ApS PA M.length pca mb q id cls born slot L.length gone H.length seq idx name size root now2 b0 A ca B cb) (by kernel_rfl) hS (fun hHeld => ?_)
  generalize w1.drew = wd at hS hHeld HRUN ⊢
  first
  | (refine tkW (i := 0) (v := ?_) rfl rfl ?_ ?_; rotate_left; (focus (intro w hSw; (try dsimp only at hSw); go_simp; first | done | with_reducible rfl)); (simp only [Act.at, setIfInBounds_toArray, set_cons_zero, set_cons_succ]))
  | (refine tkU (i := 0) rfl rfl ?_; (simp only [Act.at, setIfInBounds_toArray, set_cons_zero, set_cons_succ]))
  first
  | (refine tkW (i := 1) (v := ?_) rfl rfl ?_ ?_; rotate_left; (focus (intro w hSw; (try dsimp only at hSw); go_simp; first | done | with_reducible rfl)); (simp only [Act.at, setIfInBounds_toArray, set_cons_zero, set_cons_succ]))
  | (refine tkU (i := 1) rfl rfl ?_; (simp only [Act.at, setIfInBounds_toArray, set_cons_zero, set_cons_succ]))
  first
  | (refine tkW (i := 2) (v := ?_) rfl rfl ?_ ?_; rotate_left; (focus (intro w hSw; (try dsimp only at hSw); go_simp; first | done | with_reducible rfl)); (simp only [Act.at, setIfInBounds_toArray, set_cons_zero, set_cons_succ]))
  | (refine tkU (i := 2) rfl rfl ?_; (simp only [Act.at, setIfInBounds_toArray, set_cons_zero, set_cons_succ]))
  first
  | (refine tkW (i := 3) (v := ?_) rfl rfl ?_ ?_; rotate_left; (focus (intro w hSw; (try dsimp only at hSw); go_simp; first | done | with_reducible rfl)); (simp only [Act.at, setIfInBounds_toArray, set_cons_zero, set_cons_succ]))
  | (refine tkU (i := 3) rfl rfl ?_; (simp only [Act.at, setIfInBounds_toArray, set_cons_zero, set_cons_succ]))
  first
  | (refine tkW (i := 4) (v := ?_) rfl rfl ?_ ?_; rotate_left; (focus (intro w hSw; (try dsimp only at hSw); go_simp; first | done | with_reducible rfl)); (simp only [Act.at, setIfInBounds_toArray, set_cons_zero, set_cons_succ]))
  | (refine tkU (i := 4) rfl rfl ?_; (simp only [Act.at, setIfInBounds_toArray, set_cons_zero, set_cons_succ]))
  first
  | (refine tkW (i := 5) (v := ?_) rfl rfl ?_ ?_; rotate_left; (focus (intro w hSw; (try dsimp only at hSw); go_simp; first | done | with_reducible rfl)); (simp only [Act.at, setIfInBounds_toArray, set_cons_zero, set_cons_succ]))
  | (refine tkU (i := 5) rfl rfl ?_; (simp only [Act.at, setIfInBounds_toArray, set_cons_zero, set_cons_succ]))
  first
  | (refine tkW (i := 6) (v := ?_) rfl rfl ?_ ?_; rotate_left; (focus (intro w hSw; (try dsimp only at hSw); go_simp; first | done | with_reducible rfl)); (simp only [Act.at, setIfInBounds_toArray, set_cons_zero, set_cons_succ]))
  | (refine tkU (i := 6) rfl rfl ?_; (simp only [Act.at, setIfInBounds_toArray, set_cons_zero, set_cons_succ]))
  first
  | (refine tkW (i := 7) (v := ?_) rfl rfl ?_ ?_; rotate_left; (focus (intro w hSw; (try dsimp only at hSw); go_simp; first | done | with_reducible rfl)); (simp only [Act.at, setIfInBounds_toArray, set_cons_zero, set_cons_succ]))
  | (refine tkU (i := 7) rfl rfl ?_; (simp only [Act.at, setIfInBounds_toArray, set_cons_zero, set_cons_succ]))
  first
  | (refine tkW (i := 8) (v := ?_) rfl rfl ?_ ?_; rotate_left; (focus (intro w hSw; (try dsimp only at hSw); go_simp; first | done | with_reducible rfl)); (simp only [Act.at, setIfInBounds_toArray, set_cons_zero, set_cons_succ]))
  | (refine tkU (i := 8) rfl rfl ?_; (simp only [Act.at, setIfInBounds_toArray, set_cons_zero, set_cons_succ]))
  first
  | (refine tkW (i := 9) (v := ?_) rfl rfl ?_ ?_; rotate_left; (focus (intro w hSw; (try dsimp only at hSw); go_simp; first | done | with_reducible rfl)); (simp only [Act.at, setIfInBounds_toArray, set_cons_zero, set_cons_succ]))
  | (refine tkU (i := 9) rfl rfl ?_; (simp only [Act.at, setIfInBounds_toArray, set_cons_zero, set_cons_succ]))
  first
  | (refine tkW (i := 10) (v := ?_) rfl rfl ?_ ?_; rotate_left; (focus (intro w hSw; (try dsimp only at hSw); go_simp; first | done | with_reducible rfl)); (simp only [Act.at, setIfInBounds_toArray, set_cons_zero, set_cons_succ]))
  | (refine tkU (i := 10) rfl rfl ?_; (simp only [Act.at, setIfInBounds_toArray, set_cons_zero, set_cons_succ]))
  first
  | (refine tkW (i := 11) (v := ?_) rfl rfl ?_ ?_; rotate_left; (focus (intro w hSw; (try dsimp only at hSw); go_simp; first | done | with_reducible rfl)); (simp only [Act.at, setIfInBounds_toArray, set_cons_zero, set_cons_succ]))
  | (refine tkU (i := 11) rfl rfl ?_; (simp only [Act.at, setIfInBounds_toArray, set_cons_zero, set_cons_succ]))
  refine takeOne (i := 12) (by kernel_rfl) rfl (by rfl) (fun K hK => ?_)
  have hrun := HRUN.out
  go_simp
  refine hK.out _ _ hS2 (fun hHeld => ?_)
  clear hK K hrun HRUN
  try simp only [Act.put, setIfInBounds_toArray, set_cons_zero, set_cons_succ]
  refine wpAnyH_done (by kernel_rfl) ?_ _
  obtain ⟨-, -, z0, z1, z2, z3, z4, z5, z6, z7, z8, z9, z10, z11, z12, z13⟩ := hS2
  clear hS hHeld
  go_upto_region 8 with fail
  have hS : (EvBoxC 1 id cls born slot L.length gone H.length seq idx name size root now2 b0 A ca B cb) w2.drew := ⟨z0, z1, z2, z3, z4, z5, z6, z7, z8, z9, z10, z11, z12, z13⟩
  clear z0 z1 z2 z3 z4 z5 z6 z7 z8 z9 z10 z11 z12 z13
  refine wp_region_held_drew (S := (EvBoxC 1 id cls born slot L.length gone H.length seq idx name size root now2 b0 A ca B cb)) (by kernel_rfl) hS (fun hHeld => ?_)
  have HLT : Hid (b0 < w2.drew.heap.size) := Lib.hid HLT.out
  generalize w2.drew = wt at hS hHeld HE HQC HROW HPUSH HLT ⊢
  first
  | (refine tkW (i := 0) (v := ?_) rfl rfl ?_ ?_; rotate_left; (focus (intro w hSw; (try dsimp only at hSw); go_simp; first | done | with_reducible rfl)); (simp only [Act.at, setIfInBounds_toArray, set_cons_zero, set_cons_succ]))
  | (refine tkU (i := 0) rfl rfl ?_; (simp only [Act.at, setIfInBounds_toArray, set_cons_zero, set_cons_succ]))
  first
  | (refine tkW (i := 1) (v := ?_) rfl rfl ?_ ?_; rotate_left; (focus (intro w hSw; (try dsimp only at hSw); go_simp; first | done | with_reducible rfl)); (simp only [Act.at, setIfInBounds_toArray, set_cons_zero, set_cons_succ]))
  | (refine tkU (i := 1) rfl rfl ?_; (simp only [Act.at, setIfInBounds_toArray, set_cons_zero, set_cons_succ]))
  first
  | (refine tkW (i := 2) (v := ?_) rfl rfl ?_ ?_; rotate_left; (focus (intro w hSw; (try dsimp only at hSw); go_simp; first | done | with_reducible rfl)); (simp only [Act.at, setIfInBounds_toArray, set_cons_zero, set_cons_succ]))
  | (refine tkU (i := 2) rfl rfl ?_; (simp only [Act.at, setIfInBounds_toArray, set_cons_zero, set_cons_succ]))
  first
  | (refine tkW (i := 3) (v := ?_) rfl rfl ?_ ?_; rotate_left; (focus (intro w hSw; (try dsimp only at hSw); go_simp; first | done | with_reducible rfl)); (simp only [Act.at, setIfInBounds_toArray, set_cons_zero, set_cons_succ]))
  | (refine tkU (i := 3) rfl rfl ?_; (simp only [Act.at, setIfInBounds_toArray, set_cons_zero, set_cons_succ]))
  first
  | (refine tkW (i := 5) (v := ?_) rfl rfl ?_ ?_; rotate_left; (focus (intro w hSw; (try dsimp only at hSw); go_simp; first | done | with_reducible rfl)); (simp only [Act.at, setIfInBounds_toArray, set_cons_zero, set_cons_succ]))
  | (refine tkU (i := 5) rfl rfl ?_; (simp only [Act.at, setIfInBounds_toArray, set_cons_zero, set_cons_succ]))
  refine takeTwo (i := 4) (j := 6) (by kernel_rfl) rfl rfl (by rfl) (by rfl) (fun K hK => ?_) (fun K hK => ?_)
  ·
    have hsl := (HQC.out _ (Below.refl _ _))
    go_simp
    refine hK.out _ _ hS (fun hHeld => ?_)
    clear hK K hsl
    try simp only [Act.put, setIfInBounds_toArray, set_cons_zero, set_cons_succ]
    try simp only [Act.at, setIfInBounds_toArray, set_cons_zero, set_cons_succ]
    refine takeOne (i := 6) (by kernel_rfl) rfl (by rfl) (fun K hK => ?_)
    go_simp
    refine (HCL.out wt HE.out).mono ?_
    rintro r w4 ⟨⟨⟨id', cls', born', slot', L', gone', H'⟩, A1, c1, B1, d1⟩, rfl, he, hN, hb4⟩
    injection he with e1 e2 e3 e4 e5 e6 e7
    subst e1 e2 e3 e4 e5 e6 e7
    dsimp only [Evt.val, Sta.paperE, Evt.zero]
    have hfd := run_efield (.int .i64 1) (.string (S id')) (.int .i64 cls') (.int .i64 born') (.int .i64 slot') (.slice A1 L'.length c1) (.bool gone') (.slice B1 H'.length d1) (.int .i64 0) (.int .i64 0) (.string (S [])) (.int .i64 0) (.string (S [])) (.int .i64 0)
    have hS4 : (EvBoxC 1 id' cls' born' slot' L'.length gone' H'.length seq idx name size root now2 b0 A ca B cb) w4 := EvBoxC.keep hS (hb4.block b0 HLT.out)
    have HN4 := Lib.hid (And.intro hN hb4)
    clear hN hb4
    refine hK.out _ _ hS4 (fun hHeld => ?_)
    clear hK K hS
    try simp only [Act.put, setIfInBounds_toArray, set_cons_zero, set_cons_succ]
    try simp only [Act.at, setIfInBounds_toArray, set_cons_zero, set_cons_succ]
    first
    | (refine tkW (i := 7) (v := ?_) rfl rfl ?_ ?_; rotate_left; (focus (intro w hSw; (try dsimp only at hSw); go_simp; first | done | with_reducible rfl)); (simp only [Act.at, setIfInBounds_toArray, set_cons_zero, set_cons_succ]))
    | (refine tkU (i := 7) rfl rfl ?_; (simp only [Act.at, setIfInBounds_toArray, set_cons_zero, set_cons_succ]))
    refine takeOne (i := 8) (by kernel_rfl) rfl (by rfl) (fun K hK => ?_)
    go_simp
    have hba := stBox w4 (.cells #[.string (S id'), .int .i64 cls', .int .i64 born', .int .i64 slot', .slice A1 L'.length c1, .bool gone', .slice B1 H'.length d1] 33)
    have hS5 : (EvBoxC 1 id' cls' born' slot' L'.length gone' H'.length seq idx name size root now2 b0 A ca B cb) (w4.alloc (.cells #[.string (S id'), .int .i64 cls', .int .i64 born', .int .i64 slot', .slice A1 L'.length c1, .bool gone', .slice B1 H'.length d1] 33)) := EvBoxC.keep hS4 (hba.block b0 (Nat.lt_of_lt_of_le HLT.out HN4.out.2.size))
    have HMD := Lib.hid (papMade w4 ⟨⟨id', cls', born', slot', L', gone', H'⟩, A1, c1, B1, d1⟩)
    have HN5 := Lib.hid (And.intro (HN4.out.1.below hba) (HN4.out.2.trans (hba.mono HN4.out.2.size)))
    refine hK.out _ _ hS5 (fun hHeld => ?_)
    clear hK K hS4 HN4
    try simp only [Act.put, setIfInBounds_toArray, set_cons_zero, set_cons_succ]
    try simp only [Act.at, setIfInBounds_toArray, set_cons_zero, set_cons_succ]
    obtain ⟨ab, hab⟩ : ∃ ab, w4.heap.size = ab := ⟨_, rfl⟩
    rw [hab] at HMD ⊢
    clear hab hba
    generalize w4.alloc (.cells #[.string (S id'), .int .i64 cls', .int .i64 born', .int .i64 slot', .slice A1 L'.length c1, .bool gone', .slice B1 H'.length d1] 33) = w5 at hS5 hHeld HMD HN5 ⊢
    refine takeOne (i := 9) (by kernel_rfl) rfl (by rfl) (fun K hK => ?_)
    refine wp_pap_append (.tmp 41) (.tmp 45) rfl 46 rfl (.slice PA M.length pca) M.length M rfl (HROW.out _ HN5.out.2) ⟨ab, 0, none⟩ ⟨⟨id', cls', born', slot', L', gone', H'⟩, A1, c1, B1, d1⟩ rfl HMD.out HLN.out ?_
    intro g cap w6 hown6 hg6 hgb6 hlt6
    obtain ⟨hst, hq6, hS6', hS7'⟩ := HPUSH.out w5 w6 ⟨⟨id', cls', born', slot', L', gone', H'⟩, A1, c1, B1, d1⟩ g cap rfl HN5.out.2 HN5.out.1 hown6 hg6 (hgb6.imp (fun h => h) (fun h => Nat.le_of_eq h.symm))
    have p6 := hq6.cell 0
    have f6 := hq6.free 0
    have hS6 : (EvBoxC 1 id' cls' born' slot' L'.length gone' H'.length seq idx name size root now2 b0 A ca B cb) w6 := hS6' hS5
    have hS7 : (EvBoxC 1 id' cls' born' slot' L'.length gone' H'.length seq idx name size root now2 b0 A ca B cb) (w6.setCell ⟨q, 0, none⟩ (.slice (some ⟨g, 0, none⟩) (M.length + 1) cap)) := hS7' hS6
    have hMe : (M ++ [(⟨⟨id', cls', born', slot', L', gone', H'⟩, A1, c1, B1, d1⟩ : EntX)]).map EntX.e = st.P ++ [⟨id', cls', born', slot', L', gone', H'⟩] := by rw [List.map_append, HM.out]; rfl
    have HME := Lib.hid hMe
    clear hMe hown6 hg6 hgb6 hlt6 hq6 hS6' hS7' HMD HN5 hfd
    refine hK.out _ _ hS6 (fun hHeld => ?_)
    clear hK K hS5
    try simp only [Act.put, setIfInBounds_toArray, set_cons_zero, set_cons_succ]
    try simp only [Act.at, setIfInBounds_toArray, set_cons_zero, set_cons_succ]
    first
    | (refine tkW (i := 10) (v := ?_) rfl rfl ?_ ?_; rotate_left; (focus (intro w hSw; (try dsimp only at hSw); go_simp; first | done | with_reducible rfl)); (simp only [Act.at, setIfInBounds_toArray, set_cons_zero, set_cons_succ]))
    | (refine tkU (i := 10) rfl rfl ?_; (simp only [Act.at, setIfInBounds_toArray, set_cons_zero, set_cons_succ]))
    first
    | (refine tkW (i := 11) (v := ?_) rfl rfl ?_ ?_; rotate_left; (focus (intro w hSw; (try dsimp only at hSw); go_simp; first | done | with_reducible rfl)); (simp only [Act.at, setIfInBounds_toArray, set_cons_zero, set_cons_succ]))
    | (refine tkU (i := 11) rfl rfl ?_; (simp only [Act.at, setIfInBounds_toArray, set_cons_zero, set_cons_succ]))
    refine takeOne (i := 12) (by kernel_rfl) rfl (by rfl) (fun K hK => ?_)
    go_simp
    refine hK.out _ _ hS7 (fun hHeld => ?_)
    clear hK K
    try simp only [Act.put, setIfInBounds_toArray, set_cons_zero, set_cons_succ]
    refine wpAnyH_done (by kernel_rfl) ?_ _
    clear p6 f6 hS6 hS7 hHeld HPUSH HROW HCL
    generalize w6.setCell ⟨q, 0, none⟩ (.slice (some ⟨g, 0, none⟩) (M.length + 1) cap) = w7 at hst ⊢
    obtain ⟨z4, zf, hfin⟩ := hst.tail
    have HF := Lib.hid hfin
    clear hst hfin
    have hwr : IntKind.i64.wrap ((n : Int) + 1) = (n : Int) + 1 := by rw [IntKind.wrap_i64]; omega
    go_wp2_with fail
    go_ret
    exact ⟨rfl, HF.out.post (st := { st with P := st.P ++ [⟨id', cls', born', slot', L', gone', H'⟩] }) HU.out (HME.out)⟩
  ·
    go_simp
    refine (HCL.out wt HE.out).mono ?_
    rintro r w4 ⟨⟨⟨id', cls', born', slot', L', gone', H'⟩, A1, c1, B1, d1⟩, rfl, he, hN, hb4⟩
    injection he with e1 e2 e3 e4 e5 e6 e7
    subst e1 e2 e3 e4 e5 e6 e7
    dsimp only [Evt.val, Sta.paperE, Evt.zero]
    have hfd := run_efield (.int .i64 1) (.string (S id')) (.int .i64 cls') (.int .i64 born') (.int .i64 slot') (.slice A1 L'.length c1) (.bool gone') (.slice B1 H'.length d1) (.int .i64 0) (.int .i64 0) (.string (S [])) (.int .i64 0) (.string (S [])) (.int .i64 0)
    have hS4 : (EvBoxC 1 id' cls' born' slot' L'.length gone' H'.length seq idx name size root now2 b0 A ca B cb) w4 := EvBoxC.keep hS (hb4.block b0 HLT.out)
    have HN4 := Lib.hid (And.intro hN hb4)
    clear hN hb4
    refine hK.out _ _ hS4 (fun hHeld => ?_)
    clear hK K hS
    try simp only [Act.put, setIfInBounds_toArray, set_cons_zero, set_cons_succ]
    try simp only [Act.at, setIfInBounds_toArray, set_cons_zero, set_cons_succ]
    first
    | (refine tkW (i := 7) (v := ?_) rfl rfl ?_ ?_; rotate_left; (focus (intro w hSw; (try dsimp only at hSw); go_simp; first | done | with_reducible rfl)); (simp only [Act.at, setIfInBounds_toArray, set_cons_zero, set_cons_succ]))
    | (refine tkU (i := 7) rfl rfl ?_; (simp only [Act.at, setIfInBounds_toArray, set_cons_zero, set_cons_succ]))
    refine takeTwo (i := 4) (j := 8) (by kernel_rfl) rfl rfl (by rfl) (by rfl) (fun K hK => ?_) (fun K hK => ?_)
    ·
      have hsl := (HQC.out _ HN4.out.2)
      go_simp
      refine hK.out _ _ hS4 (fun hHeld => ?_)
      clear hK K hsl
      try simp only [Act.put, setIfInBounds_toArray, set_cons_zero, set_cons_succ]
      try simp only [Act.at, setIfInBounds_toArray, set_cons_zero, set_cons_succ]
      refine takeOne (i := 8) (by kernel_rfl) rfl (by rfl) (fun K hK => ?_)
      go_simp
      have hba := stBox w4 (.cells #[.string (S id'), .int .i64 cls', .int .i64 born', .int .i64 slot', .slice A1 L'.length c1, .bool gone', .slice B1 H'.length d1] 33)
      have hS5 : (EvBoxC 1 id' cls' born' slot' L'.length gone' H'.length seq idx name size root now2 b0 A ca B cb) (w4.alloc (.cells #[.string (S id'), .int .i64 cls', .int .i64 born', .int .i64 slot', .slice A1 L'.length c1, .bool gone', .slice B1 H'.length d1] 33)) := EvBoxC.keep hS4 (hba.block b0 (Nat.lt_of_lt_of_le HLT.out HN4.out.2.size))
      have HMD := Lib.hid (papMade w4 ⟨⟨id', cls', born', slot', L', gone', H'⟩, A1, c1, B1, d1⟩)
      have HN5 := Lib.hid (And.intro (HN4.out.1.below hba) (HN4.out.2.trans (hba.mono HN4.out.2.size)))
      refine hK.out _ _ hS5 (fun hHeld => ?_)
      clear hK K hS4 HN4
      try simp only [Act.put, setIfInBounds_toArray, set_cons_zero, set_cons_succ]
      try simp only [Act.at, setIfInBounds_toArray, set_cons_zero, set_cons_succ]
      obtain ⟨ab, hab⟩ : ∃ ab, w4.heap.size = ab := ⟨_, rfl⟩
      rw [hab] at HMD ⊢
      clear hab hba
      generalize w4.alloc (.cells #[.string (S id'), .int .i64 cls', .int .i64 born', .int .i64 slot', .slice A1 L'.length c1, .bool gone', .slice B1 H'.length d1] 33) = w5 at hS5 hHeld HMD HN5 ⊢
      refine takeOne (i := 9) (by kernel_rfl) rfl (by rfl) (fun K hK => ?_)
      refine wp_pap_append (.tmp 41) (.tmp 45) rfl 46 rfl (.slice PA M.length pca) M.length M rfl (HROW.out _ HN5.out.2) ⟨ab, 0, none⟩ ⟨⟨id', cls', born', slot', L', gone', H'⟩, A1, c1, B1, d1⟩ rfl HMD.out HLN.out ?_
      intro g cap w6 hown6 hg6 hgb6 hlt6
      obtain ⟨hst, hq6, hS6', hS7'⟩ := HPUSH.out w5 w6 ⟨⟨id', cls', born', slot', L', gone', H'⟩, A1, c1, B1, d1⟩ g cap rfl HN5.out.2 HN5.out.1 hown6 hg6 (hgb6.imp (fun h => h) (fun h => Nat.le_of_eq h.symm))
      have p6 := hq6.cell 0
      have f6 := hq6.free 0
      have hS6 : (EvBoxC 1 id' cls' born' slot' L'.length gone' H'.length seq idx name size root now2 b0 A ca B cb) w6 := hS6' hS5
      have hS7 : (EvBoxC 1 id' cls' born' slot' L'.length gone' H'.length seq idx name size root now2 b0 A ca B cb) (w6.setCell ⟨q, 0, none⟩ (.slice (some ⟨g, 0, none⟩) (M.length + 1) cap)) := hS7' hS6
      have hMe : (M ++ [(⟨⟨id', cls', born', slot', L', gone', H'⟩, A1, c1, B1, d1⟩ : EntX)]).map EntX.e = st.P ++ [⟨id', cls', born', slot', L', gone', H'⟩] := by rw [List.map_append, HM.out]; rfl
      have HME := Lib.hid hMe
      clear hMe hown6 hg6 hgb6 hlt6 hq6 hS6' hS7' HMD HN5 hfd
      refine hK.out _ _ hS6 (fun hHeld => ?_)
      clear hK K hS5
      try simp only [Act.put, setIfInBounds_toArray, set_cons_zero, set_cons_succ]
      try simp only [Act.at, setIfInBounds_toArray, set_cons_zero, set_cons_succ]
      first
      | (refine tkW (i := 10) (v := ?_) rfl rfl ?_ ?_; rotate_left; (focus (intro w hSw; (try dsimp only at hSw); go_simp; first | done | with_reducible rfl)); (simp only [Act.at, setIfInBounds_toArray, set_cons_zero, set_cons_succ]))
      | (refine tkU (i := 10) rfl rfl ?_; (simp only [Act.at, setIfInBounds_toArray, set_cons_zero, set_cons_succ]))
      first
      | (refine tkW (i := 11) (v := ?_) rfl rfl ?_ ?_; rotate_left; (focus (intro w hSw; (try dsimp only at hSw); go_simp; first | done | with_reducible rfl)); (simp only [Act.at, setIfInBounds_toArray, set_cons_zero, set_cons_succ]))
      | (refine tkU (i := 11) rfl rfl ?_; (simp only [Act.at, setIfInBounds_toArray, set_cons_zero, set_cons_succ]))
      refine takeOne (i := 12) (by kernel_rfl) rfl (by rfl) (fun K hK => ?_)
      go_simp
      refine hK.out _ _ hS7 (fun hHeld => ?_)
      clear hK K
      try simp only [Act.put, setIfInBounds_toArray, set_cons_zero, set_cons_succ]
      refine wpAnyH_done (by kernel_rfl) ?_ _
      clear p6 f6 hS6 hS7 hHeld HPUSH HROW HCL
      generalize w6.setCell ⟨q, 0, none⟩ (.slice (some ⟨g, 0, none⟩) (M.length + 1) cap) = w7 at hst ⊢
      obtain ⟨z4, zf, hfin⟩ := hst.tail
      have HF := Lib.hid hfin
      clear hst hfin
      have hwr : IntKind.i64.wrap ((n : Int) + 1) = (n : Int) + 1 := by rw [IntKind.wrap_i64]; omega
      go_wp2_with fail
      go_ret
      exact ⟨rfl, HF.out.post (st := { st with P := st.P ++ [⟨id', cls', born', slot', L', gone', H'⟩] }) HU.out (HME.out)⟩
    ·
      go_simp
      have hba := stBox w4 (.cells #[.string (S id'), .int .i64 cls', .int .i64 born', .int .i64 slot', .slice A1 L'.length c1, .bool gone', .slice B1 H'.length d1] 33)
      have hS5 : (EvBoxC 1 id' cls' born' slot' L'.length gone' H'.length seq idx name size root now2 b0 A ca B cb) (w4.alloc (.cells #[.string (S id'), .int .i64 cls', .int .i64 born', .int .i64 slot', .slice A1 L'.length c1, .bool gone', .slice B1 H'.length d1] 33)) := EvBoxC.keep hS4 (hba.block b0 (Nat.lt_of_lt_of_le HLT.out HN4.out.2.size))
      have HMD := Lib.hid (papMade w4 ⟨⟨id', cls', born', slot', L', gone', H'⟩, A1, c1, B1, d1⟩)
      have HN5 := Lib.hid (And.intro (HN4.out.1.below hba) (HN4.out.2.trans (hba.mono HN4.out.2.size)))
      refine hK.out _ _ hS5 (fun hHeld => ?_)
      clear hK K hS4 HN4
      try simp only [Act.put, setIfInBounds_toArray, set_cons_zero, set_cons_succ]
      try simp only [Act.at, setIfInBounds_toArray, set_cons_zero, set_cons_succ]
      obtain ⟨ab, hab⟩ : ∃ ab, w4.heap.size = ab := ⟨_, rfl⟩
      rw [hab] at HMD ⊢
      clear hab hba
      generalize w4.alloc (.cells #[.string (S id'), .int .i64 cls', .int .i64 born', .int .i64 slot', .slice A1 L'.length c1, .bool gone', .slice B1 H'.length d1] 33) = w5 at hS5 hHeld HMD HN5 ⊢
      refine takeOne (i := 4) (by kernel_rfl) rfl (by rfl) (fun K hK => ?_)
      have hsl := (HQC.out _ HN5.out.2)
      go_simp
      refine hK.out _ _ hS5 (fun hHeld => ?_)
      clear hK K hsl
      try simp only [Act.put, setIfInBounds_toArray, set_cons_zero, set_cons_succ]
      try simp only [Act.at, setIfInBounds_toArray, set_cons_zero, set_cons_succ]
      refine takeOne (i := 9) (by kernel_rfl) rfl (by rfl) (fun K hK => ?_)
      refine wp_pap_append (.tmp 41) (.tmp 45) rfl 46 rfl (.slice PA M.length pca) M.length M rfl (HROW.out _ HN5.out.2) ⟨ab, 0, none⟩ ⟨⟨id', cls', born', slot', L', gone', H'⟩, A1, c1, B1, d1⟩ rfl HMD.out HLN.out ?_
      intro g cap w6 hown6 hg6 hgb6 hlt6
      obtain ⟨hst, hq6, hS6', hS7'⟩ := HPUSH.out w5 w6 ⟨⟨id', cls', born', slot', L', gone', H'⟩, A1, c1, B1, d1⟩ g cap rfl HN5.out.2 HN5.out.1 hown6 hg6 (hgb6.imp (fun h => h) (fun h => Nat.le_of_eq h.symm))
      have p6 := hq6.cell 0
      have f6 := hq6.free 0
      have hS6 : (EvBoxC 1 id' cls' born' slot' L'.length gone' H'.length seq idx name size root now2 b0 A ca B cb) w6 := hS6' hS5
      have hS7 : (EvBoxC 1 id' cls' born' slot' L'.length gone' H'.length seq idx name size root now2 b0 A ca B cb) (w6.setCell ⟨q, 0, none⟩ (.slice (some ⟨g, 0, none⟩) (M.length + 1) cap)) := hS7' hS6
      have hMe : (M ++ [(⟨⟨id', cls', born', slot', L', gone', H'⟩, A1, c1, B1, d1⟩ : EntX)]).map EntX.e = st.P ++ [⟨id', cls', born', slot', L', gone', H'⟩] := by rw [List.map_append, HM.out]; rfl
      have HME := Lib.hid hMe
      clear hMe hown6 hg6 hgb6 hlt6 hq6 hS6' hS7' HMD HN5 hfd
      refine hK.out _ _ hS6 (fun hHeld => ?_)
      clear hK K hS5
      try simp only [Act.put, setIfInBounds_toArray, set_cons_zero, set_cons_succ]
      try simp only [Act.at, setIfInBounds_toArray, set_cons_zero, set_cons_succ]
      first
      | (refine tkW (i := 10) (v := ?_) rfl rfl ?_ ?_; rotate_left; (focus (intro w hSw; (try dsimp only at hSw); go_simp; first | done | with_reducible rfl)); (simp only [Act.at, setIfInBounds_toArray, set_cons_zero, set_cons_succ]))
      | (refine tkU (i := 10) rfl rfl ?_; (simp only [Act.at, setIfInBounds_toArray, set_cons_zero, set_cons_succ]))
      first
      | (refine tkW (i := 11) (v := ?_) rfl rfl ?_ ?_; rotate_left; (focus (intro w hSw; (try dsimp only at hSw); go_simp; first | done | with_reducible rfl)); (simp only [Act.at, setIfInBounds_toArray, set_cons_zero, set_cons_succ]))
      | (refine tkU (i := 11) rfl rfl ?_; (simp only [Act.at, setIfInBounds_toArray, set_cons_zero, set_cons_succ]))
      refine takeOne (i := 12) (by kernel_rfl) rfl (by rfl) (fun K hK => ?_)
      go_simp
      refine hK.out _ _ hS7 (fun hHeld => ?_)
      clear hK K
      try simp only [Act.put, setIfInBounds_toArray, set_cons_zero, set_cons_succ]
      refine wpAnyH_done (by kernel_rfl) ?_ _
      clear p6 f6 hS6 hS7 hHeld HPUSH HROW HCL
      generalize w6.setCell ⟨q, 0, none⟩ (.slice (some ⟨g, 0, none⟩) (M.length + 1) cap) = w7 at hst ⊢
      obtain ⟨z4, zf, hfin⟩ := hst.tail
      have HF := Lib.hid hfin
      clear hst hfin
      have hwr : IntKind.i64.wrap ((n : Int) + 1) = (n : Int) + 1 := by rw [IntKind.wrap_i64]; omega
      go_wp2_with fail
      go_ret
      exact ⟨rfl, HF.out.post (st := { st with P := st.P ++ [⟨id', cls', born', slot', L', gone', H'⟩] }) HU.out (HME.out)⟩
end
end Go.Proofs.Ytojemaaljjibiaa
