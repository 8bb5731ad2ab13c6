/-
  A heap's before, swap, parent, rise.
-/
import Derived.Test.YtjmdpepghnhpkaaHeapMem
import Derived.Test.YtjmdpepghnhpkaaOrd
namespace Go.Proofs.Ytjmdpepghnhpkaa
open Go.RowKit
set_option linter.unusedVariables false

theorem dueSz : (Try.prog.info? 34).map (·.size) = some 2 := by kernel_rfl
theorem wp_due_load {op : Oper} {a : Act} {w : World} {K : Act → World → Prop} {Q : Exit → Act → World → Prop} (x : Operand) (ho : op.op = .load 34 x) (b o : Nat) (hx : a.eval x = .pointer (some ⟨b, o, none⟩)) (d : Du) (hc : w.rangeAt b o d.cs) (t : Nat) (hd : op.dst = some t)
    (h : K (Act.at a t (.agg #[.int .i64 d.seq, .int .i64 d.due])) w) : op.wp Try.prog a w K Q :=
  wp_load_mid _ x ho b o hx _ _ hc Try.underlying34 rfl dueSz (by rw [hd]; exact h)
theorem wp_due_store {op : Oper} {a : Act} {w : World} {K : Act → World → Prop} {Q : Exit → Act → World → Prop} (x y : Operand) (ho : op.op = .store 34 x y) (b o : Nat) (hx : a.eval x = .pointer (some ⟨b, o, none⟩)) (d : Du) (hy : a.eval y = .agg #[.int .i64 d.seq, .int .i64 d.due]) (ht : w.there b o 2) (hd : op.dst = none)
    (h : K a (w.setCells b o d.cs)) : op.wp Try.prog a w K Q :=
  wp_store_mid _ x y ho b o _ hx hy ht dueSz (by simp [Value.oneCell']) (by rw [hd]; exact h)
/-- What an exchange's slices read. -/
abbrev SlS (q B n cap : Nat) (W : World) : Prop := W.cell? ⟨q, 0, none⟩ = some (.slice (some ⟨B, 0, none⟩) n cap)
/-- What a comparison of two of a heap reads. -/
abbrev CmpS (q B n cap i p : Nat) (x y : Du) (W : World) : Prop := W.cell? ⟨q, 0, none⟩ = some (.slice (some ⟨B, 0, none⟩) n cap) ∧ W.cell? ⟨B, i * 2, none⟩ = some (.int .i64 x.seq) ∧ W.cell? ⟨B, i * 2 + 1, none⟩ = some (.int .i64 x.due) ∧ W.cell? ⟨B, p * 2, none⟩ = some (.int .i64 y.seq) ∧ W.cell? ⟨B, p * 2 + 1, none⟩ = some (.int .i64 y.due)
theorem CmpS.below {q B n cap i p : Nat} {x y : Du} {w w' : World} (h : CmpS q B n cap i p x y w) (hb : Below w.heap.size w w') (hq : q < w.heap.size) (hB : B < w.heap.size) : CmpS q B n cap i p x y w' :=
  ⟨(hb.cell (p := ⟨q, 0, none⟩) hq).trans h.1, (hb.cell (p := ⟨B, i * 2, none⟩) hB).trans h.2.1, (hb.cell (p := ⟨B, i * 2 + 1, none⟩) hB).trans h.2.2.1, (hb.cell (p := ⟨B, p * 2, none⟩) hB).trans h.2.2.2.1, (hb.cell (p := ⟨B, p * 2 + 1, none⟩) hB).trans h.2.2.2.2⟩
theorem HAt.cmp {w : World} {q B cap : Nat} {h : List Du} (H : HAt w q B h cap) {i p : Nat} (hi : i < h.length) (hp : p < h.length) : CmpS q B h.length cap i p (Du.g h i) (Du.g h p) w := by
  rw [Du.g_at hi, Du.g_at hp]
  exact ⟨H.slice, (H.cells i hi).1, (H.cells i hi).2, (H.cells p hp).1, (H.cells p hp).2⟩
theorem HAt.drew {w : World} {q B cap : Nat} {h : List Du} (H : HAt w q B h cap) : HAt w.drew q B h cap := ⟨H.ne, H.qh, H.row, H.le, H.cm⟩
set_option maxRecDepth 100000 in
set_option maxHeartbeats 2000000 in
theorem before_any {w : World} {q B cap : Nat} {h : List Du} (H : HAt w q B h cap) {i k : Nat} (hi : i < h.length) (hk : k < h.length) :
    Calls Try.prog 34 #[.pointer (some ⟨q, 0, none⟩), .int .i64 (i : Int), .int .i64 (k : Int)] w fun r w' => r = .returned (.bool (Du.lt (Du.g h i) (Du.g h k))) ∧ Below w.heap.size w w' := by
  have hx : CmpS q B h.length cap i k (Du.g h i) (Du.g h k) w.drew := H.drew.cmp hi hk
  have HO := Lib.hid (order_any (Du.g h i) (Du.g h k))
  have hlt : decide (Du.cf (Du.g h i) (Du.g h k) < 0) = Du.lt (Du.g h i) (Du.g h k) := Du.cf_lt _ _
  have HQ : Hid (q < w.heap.size ∧ B < w.heap.size) := Lib.hid H.lt
  have hii : (i : Int) < (h.length : Int) := by omega
  have hki : (k : Int) < (h.length : Int) := by omega
  have hi0 : (0 : Int) ≤ (i : Int) := by omega
  have hk0 : (0 : Int) ≤ (k : Int) := by omega
  generalize Du.cf (Du.g h i) (Du.g h k) = c at HO hlt
  generalize Du.lt (Du.g h i) (Du.g h k) = res at hlt ⊢
  generalize Du.g h i = X at HO hx
  generalize Du.g h k = Y at HO hx
  obtain ⟨xs, xd⟩ := X
  obtain ⟨ys, yd⟩ := Y
  generalize h.length = n at *
  dsimp only at HO
  have HLT := Lib.hid hlt
  have HBW : Hid (Below w.heap.size w w.drew) := Lib.hid (Below.refl _ w).drew
  clear hlt H hi hk
  go_enter Try.func34, Try.ntmps34
  go_upto_region 1 with fail
  refine wp_region_held_drew (S := CmpS q B n cap i k ⟨xs, xd⟩ ⟨ys, yd⟩) (by kernel_rfl) hx (fun hHeld => ?_)
  have HQD : Hid (q < w.drew.heap.size ∧ B < w.drew.heap.size) := HQ
  generalize w.drew = wd at hx hHeld HBW HQD ⊢
  first
  | (refine take_wanted (i := 0) (v := ?_) rfl rfl (by kernel_rfl) (by kernel_rfl) (by kernel_rfl) (fun _ _ _ h => h) (by rfl) (by assumption) ?_ ?_; rotate_left; (focus (intro w hSw; (try dsimp only at hSw); go_simp; first | done | with_reducible rfl)); (simp only [Act.at, List.setIfInBounds_toArray, List.set_cons_zero, List.set_cons_succ]))
  | (refine take_unwanted (i := 0) rfl rfl (by kernel_rfl) (by kernel_rfl) (by kernel_rfl) (fun _ _ _ h => h) (by rfl) (by assumption) ?_; (simp only [Act.at, List.setIfInBounds_toArray, List.set_cons_zero, List.set_cons_succ]))
  first
  | (refine take_wanted (i := 1) (v := ?_) rfl rfl (by kernel_rfl) (by kernel_rfl) (by kernel_rfl) (fun _ _ _ h => h) (by rfl) (by assumption) ?_ ?_; rotate_left; (focus (intro w hSw; (try dsimp only at hSw); go_simp; first | done | with_reducible rfl)); (simp only [Act.at, List.setIfInBounds_toArray, List.set_cons_zero, List.set_cons_succ]))
  | (refine take_unwanted (i := 1) rfl rfl (by kernel_rfl) (by kernel_rfl) (by kernel_rfl) (fun _ _ _ h => h) (by rfl) (by assumption) ?_; (simp only [Act.at, List.setIfInBounds_toArray, List.set_cons_zero, List.set_cons_succ]))
  first
  | (refine take_wanted (i := 2) (v := ?_) rfl rfl (by kernel_rfl) (by kernel_rfl) (by kernel_rfl) (fun _ _ _ h => h) (by rfl) (by assumption) ?_ ?_; rotate_left; (focus (intro w hSw; (try dsimp only at hSw); go_simp; first | done | with_reducible rfl)); (simp only [Act.at, List.setIfInBounds_toArray, List.set_cons_zero, List.set_cons_succ]))
  | (refine take_unwanted (i := 2) rfl rfl (by kernel_rfl) (by kernel_rfl) (by kernel_rfl) (fun _ _ _ h => h) (by rfl) (by assumption) ?_; (simp only [Act.at, List.setIfInBounds_toArray, List.set_cons_zero, List.set_cons_succ]))
  first
  | (refine take_wanted (i := 3) (v := ?_) rfl rfl (by kernel_rfl) (by kernel_rfl) (by kernel_rfl) (fun _ _ _ h => h) (by rfl) (by assumption) ?_ ?_; rotate_left; (focus (intro w hSw; (try dsimp only at hSw); go_simp; first | done | with_reducible rfl)); (simp only [Act.at, List.setIfInBounds_toArray, List.set_cons_zero, List.set_cons_succ]))
  | (refine take_unwanted (i := 3) rfl rfl (by kernel_rfl) (by kernel_rfl) (by kernel_rfl) (fun _ _ _ h => h) (by rfl) (by assumption) ?_; (simp only [Act.at, List.setIfInBounds_toArray, List.set_cons_zero, List.set_cons_succ]))
  first
  | (refine take_wanted (i := 4) (v := ?_) rfl rfl (by kernel_rfl) (by kernel_rfl) (by kernel_rfl) (fun _ _ _ h => h) (by rfl) (by assumption) ?_ ?_; rotate_left; (focus (intro w hSw; (try dsimp only at hSw); go_simp; first | done | with_reducible rfl)); (simp only [Act.at, List.setIfInBounds_toArray, List.set_cons_zero, List.set_cons_succ]))
  | (refine take_unwanted (i := 4) rfl rfl (by kernel_rfl) (by kernel_rfl) (by kernel_rfl) (fun _ _ _ h => h) (by rfl) (by assumption) ?_; (simp only [Act.at, List.setIfInBounds_toArray, List.set_cons_zero, List.set_cons_succ]))
  first
  | (refine take_wanted (i := 5) (v := ?_) rfl rfl (by kernel_rfl) (by kernel_rfl) (by kernel_rfl) (fun _ _ _ h => h) (by rfl) (by assumption) ?_ ?_; rotate_left; (focus (intro w hSw; (try dsimp only at hSw); go_simp; first | done | with_reducible rfl)); (simp only [Act.at, List.setIfInBounds_toArray, List.set_cons_zero, List.set_cons_succ]))
  | (refine take_unwanted (i := 5) rfl rfl (by kernel_rfl) (by kernel_rfl) (by kernel_rfl) (fun _ _ _ h => h) (by rfl) (by assumption) ?_; (simp only [Act.at, List.setIfInBounds_toArray, List.set_cons_zero, List.set_cons_succ]))
  first
  | (refine take_wanted (i := 6) (v := ?_) rfl rfl (by kernel_rfl) (by kernel_rfl) (by kernel_rfl) (fun _ _ _ h => h) (by rfl) (by assumption) ?_ ?_; rotate_left; (focus (intro w hSw; (try dsimp only at hSw); go_simp; first | done | with_reducible rfl)); (simp only [Act.at, List.setIfInBounds_toArray, List.set_cons_zero, List.set_cons_succ]))
  | (refine take_unwanted (i := 6) rfl rfl (by kernel_rfl) (by kernel_rfl) (by kernel_rfl) (fun _ _ _ h => h) (by rfl) (by assumption) ?_; (simp only [Act.at, List.setIfInBounds_toArray, List.set_cons_zero, List.set_cons_succ]))
  first
  | (refine take_wanted (i := 7) (v := ?_) rfl rfl (by kernel_rfl) (by kernel_rfl) (by kernel_rfl) (fun _ _ _ h => h) (by rfl) (by assumption) ?_ ?_; rotate_left; (focus (intro w hSw; (try dsimp only at hSw); go_simp; first | done | with_reducible rfl)); (simp only [Act.at, List.setIfInBounds_toArray, List.set_cons_zero, List.set_cons_succ]))
  | (refine take_unwanted (i := 7) rfl rfl (by kernel_rfl) (by kernel_rfl) (by kernel_rfl) (fun _ _ _ h => h) (by rfl) (by assumption) ?_; (simp only [Act.at, List.setIfInBounds_toArray, List.set_cons_zero, List.set_cons_succ]))
  first
  | (refine take_wanted (i := 8) (v := ?_) rfl rfl (by kernel_rfl) (by kernel_rfl) (by kernel_rfl) (fun _ _ _ h => h) (by rfl) (by assumption) ?_ ?_; rotate_left; (focus (intro w hSw; (try dsimp only at hSw); go_simp; first | done | with_reducible rfl)); (simp only [Act.at, List.setIfInBounds_toArray, List.set_cons_zero, List.set_cons_succ]))
  | (refine take_unwanted (i := 8) rfl rfl (by kernel_rfl) (by kernel_rfl) (by kernel_rfl) (fun _ _ _ h => h) (by rfl) (by assumption) ?_; (simp only [Act.at, List.setIfInBounds_toArray, List.set_cons_zero, List.set_cons_succ]))
  first
  | (refine take_wanted (i := 9) (v := ?_) rfl rfl (by kernel_rfl) (by kernel_rfl) (by kernel_rfl) (fun _ _ _ h => h) (by rfl) (by assumption) ?_ ?_; rotate_left; (focus (intro w hSw; (try dsimp only at hSw); go_simp; first | done | with_reducible rfl)); (simp only [Act.at, List.setIfInBounds_toArray, List.set_cons_zero, List.set_cons_succ]))
  | (refine take_unwanted (i := 9) rfl rfl (by kernel_rfl) (by kernel_rfl) (by kernel_rfl) (fun _ _ _ h => h) (by rfl) (by assumption) ?_; (simp only [Act.at, List.setIfInBounds_toArray, List.set_cons_zero, List.set_cons_succ]))
  first
  | (refine take_wanted (i := 10) (v := ?_) rfl rfl (by kernel_rfl) (by kernel_rfl) (by kernel_rfl) (fun _ _ _ h => h) (by rfl) (by assumption) ?_ ?_; rotate_left; (focus (intro w hSw; (try dsimp only at hSw); go_simp; first | done | with_reducible rfl)); (simp only [Act.at, List.setIfInBounds_toArray, List.set_cons_zero, List.set_cons_succ]))
  | (refine take_unwanted (i := 10) rfl rfl (by kernel_rfl) (by kernel_rfl) (by kernel_rfl) (fun _ _ _ h => h) (by rfl) (by assumption) ?_; (simp only [Act.at, List.setIfInBounds_toArray, List.set_cons_zero, List.set_cons_succ]))
  first
  | (refine take_wanted (i := 11) (v := ?_) rfl rfl (by kernel_rfl) (by kernel_rfl) (by kernel_rfl) (fun _ _ _ h => h) (by rfl) (by assumption) ?_ ?_; rotate_left; (focus (intro w hSw; (try dsimp only at hSw); go_simp; first | done | with_reducible rfl)); (simp only [Act.at, List.setIfInBounds_toArray, List.set_cons_zero, List.set_cons_succ]))
  | (refine take_unwanted (i := 11) rfl rfl (by kernel_rfl) (by kernel_rfl) (by kernel_rfl) (fun _ _ _ h => h) (by rfl) (by assumption) ?_; (simp only [Act.at, List.setIfInBounds_toArray, List.set_cons_zero, List.set_cons_succ]))
  first
  | (refine take_wanted (i := 12) (v := ?_) rfl rfl (by kernel_rfl) (by kernel_rfl) (by kernel_rfl) (fun _ _ _ h => h) (by rfl) (by assumption) ?_ ?_; rotate_left; (focus (intro w hSw; (try dsimp only at hSw); go_simp; first | done | with_reducible rfl)); (simp only [Act.at, List.setIfInBounds_toArray, List.set_cons_zero, List.set_cons_succ]))
  | (refine take_unwanted (i := 12) rfl rfl (by kernel_rfl) (by kernel_rfl) (by kernel_rfl) (fun _ _ _ h => h) (by rfl) (by assumption) ?_; (simp only [Act.at, List.setIfInBounds_toArray, List.set_cons_zero, List.set_cons_succ]))
  first
  | (refine take_wanted (i := 13) (v := ?_) rfl rfl (by kernel_rfl) (by kernel_rfl) (by kernel_rfl) (fun _ _ _ h => h) (by rfl) (by assumption) ?_ ?_; rotate_left; (focus (intro w hSw; (try dsimp only at hSw); go_simp; first | done | with_reducible rfl)); (simp only [Act.at, List.setIfInBounds_toArray, List.set_cons_zero, List.set_cons_succ]))
  | (refine take_unwanted (i := 13) rfl rfl (by kernel_rfl) (by kernel_rfl) (by kernel_rfl) (fun _ _ _ h => h) (by rfl) (by assumption) ?_; (simp only [Act.at, List.setIfInBounds_toArray, List.set_cons_zero, List.set_cons_succ]))
  refine take_call (i := 14) (by kernel_rfl) rfl rfl (by rfl) (fun K hK => ?_)
  go_simp
  refine (HO.out wd).mono ?_
  rintro r w1 ⟨rfl, hb1⟩
  have hx1 := hx.below hb1 HQD.out.1 HQD.out.2
  have HB1 := Lib.hid (HBW.out.trans (hb1.mono HBW.out.size))
  clear hb1 hx HBW HQD hHeld
  refine hK.out _ _ hx1 (fun hHeld => ?_)
  clear hK K
  try simp only [Act.put, List.setIfInBounds_toArray, List.set_cons_zero, List.set_cons_succ]
  first
  | (refine take_wanted (i := 15) (v := ?_) rfl rfl (by kernel_rfl) (by kernel_rfl) (by kernel_rfl) (fun _ _ _ h => h) (by rfl) (by assumption) ?_ ?_; rotate_left; (focus (intro w hSw; (try dsimp only at hSw); go_simp; first | done | with_reducible rfl)); (simp only [Act.at, List.setIfInBounds_toArray, List.set_cons_zero, List.set_cons_succ]))
  | (refine take_unwanted (i := 15) rfl rfl (by kernel_rfl) (by kernel_rfl) (by kernel_rfl) (fun _ _ _ h => h) (by rfl) (by assumption) ?_; (simp only [Act.at, List.setIfInBounds_toArray, List.set_cons_zero, List.set_cons_succ]))
  first
  | (refine take_wanted (i := 16) (v := ?_) rfl rfl (by kernel_rfl) (by kernel_rfl) (by kernel_rfl) (fun _ _ _ h => h) (by rfl) (by assumption) ?_ ?_; rotate_left; (focus (intro w hSw; (try dsimp only at hSw); go_simp; first | done | with_reducible rfl)); (simp only [Act.at, List.setIfInBounds_toArray, List.set_cons_zero, List.set_cons_succ]))
  | (refine take_unwanted (i := 16) rfl rfl (by kernel_rfl) (by kernel_rfl) (by kernel_rfl) (fun _ _ _ h => h) (by rfl) (by assumption) ?_; (simp only [Act.at, List.setIfInBounds_toArray, List.set_cons_zero, List.set_cons_succ]))
  refine wpAnyH_done (by kernel_rfl) ?_ _
  go_wp2_with fail
  go_ret
  exact ⟨by rw [← HLT.out]; rfl, HB1.out⟩
set_option maxRecDepth 100000 in
set_option maxHeartbeats 8000000 in
theorem swap_any {w : World} {q B cap : Nat} {h : List Du} (H : HAt w q B h cap) {i k : Nat} (hi : i < h.length) (hk : k < h.length) :
    Calls Try.prog 36 #[.pointer (some ⟨q, 0, none⟩), .int .i64 (i : Int), .int .i64 (k : Int)] w fun r w' => r = .returned (.tuple #[]) ∧ HAt w' q B (Du.sw h i k) cap ∧ Mv w w' [B] := by
  have hii : (i : Int) < (h.length : Int) := by omega
  have hki : (k : Int) < (h.length : Int) := by omega
  have hi0 : (0 : Int) ≤ (i : Int) := by omega
  have hk0 : (0 : Int) ≤ (k : Int) := by omega
  have HX : Hid (SlS q B h.length cap w.drew ∧ w.drew.rangeAt B (i * 2) (Du.g h i).cs ∧ w.drew.rangeAt B (k * 2) (Du.g h k).cs ∧ w.drew.there B (i * 2) 2 ∧ (w.drew.setCells B (i * 2) (Du.g h k).cs).there B (k * 2) 2 ∧ SlS q B h.length cap (w.drew.setCells B (i * 2) (Du.g h k).cs) ∧ SlS q B h.length cap ((w.drew.setCells B (i * 2) (Du.g h k).cs).setCells B (k * 2) (Du.g h i).cs)) := Lib.hid (by
    have hW := H.drew
    refine ⟨hW.slice, by rw [Du.g_at hi]; exact hW.range i hi, by rw [Du.g_at hk]; exact hW.range k hk, hW.there i hi, (hW.put i hi _).there k (by rw [List.length_set]; exact hk), ?_, ?_⟩
    · have := (hW.put i hi (Du.g h k)).slice; rwa [List.length_set] at this
    · have := (hW.swap hi hk).slice; rwa [Du.sw_len] at this)
  have HSWX : Hid (HAt ((w.drew.setCells B (i * 2) (Du.g h k).cs).setCells B (k * 2) (Du.g h i).cs) q B (Du.sw h i k) cap) := Lib.hid (H.drew.swap hi hk)
  have HMVX := Lib.hid ((Mv.refl w [B]).drew)
  have hS := HX.out.1
  generalize Du.g h i = X at HX HSWX
  generalize Du.g h k = Y at HX HSWX
  obtain ⟨xs, xd⟩ := X
  obtain ⟨ys, yd⟩ := Y
  generalize h.length = n at *
  clear H hi hk
  go_enter Try.func36, Try.ntmps36
  go_upto_region 0 with fail
  refine wp_region_held_drew (S := SlS q B n cap) (by kernel_rfl) hS (fun hHeld => ?_)
  generalize w.drew = wd at HX HSWX HMVX hS hHeld ⊢
  have HE := Lib.hid HX.out.2
  clear HX
  first
  | (refine take_wanted (i := 0) (v := ?_) rfl rfl (by kernel_rfl) (by kernel_rfl) (by kernel_rfl) (fun _ _ _ h => h) (by rfl) (by assumption) ?_ ?_; rotate_left; (focus (intro w hSw; (try dsimp only at hSw); go_simp; first | done | with_reducible rfl)); (simp only [Act.at, List.setIfInBounds_toArray, List.set_cons_zero, List.set_cons_succ]))
  | (refine take_unwanted (i := 0) rfl rfl (by kernel_rfl) (by kernel_rfl) (by kernel_rfl) (fun _ _ _ h => h) (by rfl) (by assumption) ?_; (simp only [Act.at, List.setIfInBounds_toArray, List.set_cons_zero, List.set_cons_succ]))
  first
  | (refine take_wanted (i := 1) (v := ?_) rfl rfl (by kernel_rfl) (by kernel_rfl) (by kernel_rfl) (fun _ _ _ h => h) (by rfl) (by assumption) ?_ ?_; rotate_left; (focus (intro w hSw; (try dsimp only at hSw); go_simp; first | done | with_reducible rfl)); (simp only [Act.at, List.setIfInBounds_toArray, List.set_cons_zero, List.set_cons_succ]))
  | (refine take_unwanted (i := 1) rfl rfl (by kernel_rfl) (by kernel_rfl) (by kernel_rfl) (fun _ _ _ h => h) (by rfl) (by assumption) ?_; (simp only [Act.at, List.setIfInBounds_toArray, List.set_cons_zero, List.set_cons_succ]))
  first
  | (refine take_wanted (i := 2) (v := ?_) rfl rfl (by kernel_rfl) (by kernel_rfl) (by kernel_rfl) (fun _ _ _ h => h) (by rfl) (by assumption) ?_ ?_; rotate_left; (focus (intro w hSw; (try dsimp only at hSw); go_simp; first | done | with_reducible rfl)); (simp only [Act.at, List.setIfInBounds_toArray, List.set_cons_zero, List.set_cons_succ]))
  | (refine take_unwanted (i := 2) rfl rfl (by kernel_rfl) (by kernel_rfl) (by kernel_rfl) (fun _ _ _ h => h) (by rfl) (by assumption) ?_; (simp only [Act.at, List.setIfInBounds_toArray, List.set_cons_zero, List.set_cons_succ]))
  first
  | (refine take_wanted (i := 3) (v := ?_) rfl rfl (by kernel_rfl) (by kernel_rfl) (by kernel_rfl) (fun _ _ _ h => h) (by rfl) (by assumption) ?_ ?_; rotate_left; (focus (intro w hSw; (try dsimp only at hSw); go_simp; first | done | with_reducible rfl)); (simp only [Act.at, List.setIfInBounds_toArray, List.set_cons_zero, List.set_cons_succ]))
  | (refine take_unwanted (i := 3) rfl rfl (by kernel_rfl) (by kernel_rfl) (by kernel_rfl) (fun _ _ _ h => h) (by rfl) (by assumption) ?_; (simp only [Act.at, List.setIfInBounds_toArray, List.set_cons_zero, List.set_cons_succ]))
  first
  | (refine take_wanted (i := 4) (v := ?_) rfl rfl (by kernel_rfl) (by kernel_rfl) (by kernel_rfl) (fun _ _ _ h => h) (by rfl) (by assumption) ?_ ?_; rotate_left; (focus (intro w hSw; (try dsimp only at hSw); go_simp; first | done | with_reducible rfl)); (simp only [Act.at, List.setIfInBounds_toArray, List.set_cons_zero, List.set_cons_succ]))
  | (refine take_unwanted (i := 4) rfl rfl (by kernel_rfl) (by kernel_rfl) (by kernel_rfl) (fun _ _ _ h => h) (by rfl) (by assumption) ?_; (simp only [Act.at, List.setIfInBounds_toArray, List.set_cons_zero, List.set_cons_succ]))
  first
  | (refine take_wanted (i := 5) (v := ?_) rfl rfl (by kernel_rfl) (by kernel_rfl) (by kernel_rfl) (fun _ _ _ h => h) (by rfl) (by assumption) ?_ ?_; rotate_left; (focus (intro w hSw; (try dsimp only at hSw); go_simp; first | done | with_reducible rfl)); (simp only [Act.at, List.setIfInBounds_toArray, List.set_cons_zero, List.set_cons_succ]))
  | (refine take_unwanted (i := 5) rfl rfl (by kernel_rfl) (by kernel_rfl) (by kernel_rfl) (fun _ _ _ h => h) (by rfl) (by assumption) ?_; (simp only [Act.at, List.setIfInBounds_toArray, List.set_cons_zero, List.set_cons_succ]))
  first
  | (refine take_wanted (i := 6) (v := ?_) rfl rfl (by kernel_rfl) (by kernel_rfl) (by kernel_rfl) (fun _ _ _ h => h) (by rfl) (by assumption) ?_ ?_; rotate_left; (focus (intro w hSw; (try dsimp only at hSw); go_simp; first | done | with_reducible rfl)); (simp only [Act.at, List.setIfInBounds_toArray, List.set_cons_zero, List.set_cons_succ]))
  | (refine take_unwanted (i := 6) rfl rfl (by kernel_rfl) (by kernel_rfl) (by kernel_rfl) (fun _ _ _ h => h) (by rfl) (by assumption) ?_; (simp only [Act.at, List.setIfInBounds_toArray, List.set_cons_zero, List.set_cons_succ]))
  first
  | (refine take_wanted (i := 7) (v := ?_) rfl rfl (by kernel_rfl) (by kernel_rfl) (by kernel_rfl) (fun _ _ _ h => h) (by rfl) (by assumption) ?_ ?_; rotate_left; (focus (intro w hSw; (try dsimp only at hSw); go_simp; first | done | with_reducible rfl)); (simp only [Act.at, List.setIfInBounds_toArray, List.set_cons_zero, List.set_cons_succ]))
  | (refine take_unwanted (i := 7) rfl rfl (by kernel_rfl) (by kernel_rfl) (by kernel_rfl) (fun _ _ _ h => h) (by rfl) (by assumption) ?_; (simp only [Act.at, List.setIfInBounds_toArray, List.set_cons_zero, List.set_cons_succ]))
  first
  | (refine take_wanted (i := 8) (v := ?_) rfl rfl (by kernel_rfl) (by kernel_rfl) (by kernel_rfl) (fun _ _ _ h => h) (by rfl) (by assumption) ?_ ?_; rotate_left; (focus (intro w hSw; (try dsimp only at hSw); go_simp; first | done | with_reducible rfl)); (simp only [Act.at, List.setIfInBounds_toArray, List.set_cons_zero, List.set_cons_succ]))
  | (refine take_unwanted (i := 8) rfl rfl (by kernel_rfl) (by kernel_rfl) (by kernel_rfl) (fun _ _ _ h => h) (by rfl) (by assumption) ?_; (simp only [Act.at, List.setIfInBounds_toArray, List.set_cons_zero, List.set_cons_succ]))
  first
  | (refine take_wanted (i := 9) (v := ?_) rfl rfl (by kernel_rfl) (by kernel_rfl) (by kernel_rfl) (fun _ _ _ h => h) (by rfl) (by assumption) ?_ ?_; rotate_left; (focus (intro w hSw; (try dsimp only at hSw); go_simp; first | done | with_reducible rfl)); (simp only [Act.at, List.setIfInBounds_toArray, List.set_cons_zero, List.set_cons_succ]))
  | (refine take_unwanted (i := 9) rfl rfl (by kernel_rfl) (by kernel_rfl) (by kernel_rfl) (fun _ _ _ h => h) (by rfl) (by assumption) ?_; (simp only [Act.at, List.setIfInBounds_toArray, List.set_cons_zero, List.set_cons_succ]))
  first
  | (refine take_wanted (i := 10) (v := ?_) rfl rfl (by kernel_rfl) (by kernel_rfl) (by kernel_rfl) (fun _ _ _ h => h) (by rfl) (by assumption) ?_ ?_; rotate_left; (focus (intro w hSw; (try dsimp only at hSw); go_simp; first | done | with_reducible rfl)); (simp only [Act.at, List.setIfInBounds_toArray, List.set_cons_zero, List.set_cons_succ]))
  | (refine take_unwanted (i := 10) rfl rfl (by kernel_rfl) (by kernel_rfl) (by kernel_rfl) (fun _ _ _ h => h) (by rfl) (by assumption) ?_; (simp only [Act.at, List.setIfInBounds_toArray, List.set_cons_zero, List.set_cons_succ]))
  first
  | (refine take_wanted (i := 11) (v := ?_) rfl rfl (by kernel_rfl) (by kernel_rfl) (by kernel_rfl) (fun _ _ _ h => h) (by rfl) (by assumption) ?_ ?_; rotate_left; (focus (intro w hSw; (try dsimp only at hSw); go_simp; first | done | with_reducible rfl)); (simp only [Act.at, List.setIfInBounds_toArray, List.set_cons_zero, List.set_cons_succ]))
  | (refine take_unwanted (i := 11) rfl rfl (by kernel_rfl) (by kernel_rfl) (by kernel_rfl) (fun _ _ _ h => h) (by rfl) (by assumption) ?_; (simp only [Act.at, List.setIfInBounds_toArray, List.set_cons_zero, List.set_cons_succ]))
  first
  | (refine take_wanted (i := 12) (v := ?_) rfl rfl (by kernel_rfl) (by kernel_rfl) (by kernel_rfl) (fun _ _ _ h => h) (by rfl) (by assumption) ?_ ?_; rotate_left; (focus (intro w hSw; (try dsimp only at hSw); go_simp; first | done | with_reducible rfl)); (simp only [Act.at, List.setIfInBounds_toArray, List.set_cons_zero, List.set_cons_succ]))
  | (refine take_unwanted (i := 12) rfl rfl (by kernel_rfl) (by kernel_rfl) (by kernel_rfl) (fun _ _ _ h => h) (by rfl) (by assumption) ?_; (simp only [Act.at, List.setIfInBounds_toArray, List.set_cons_zero, List.set_cons_succ]))
  first
  | (refine take_wanted (i := 13) (v := ?_) rfl rfl (by kernel_rfl) (by kernel_rfl) (by kernel_rfl) (fun _ _ _ h => h) (by rfl) (by assumption) ?_ ?_; rotate_left; (focus (intro w hSw; (try dsimp only at hSw); go_simp; first | done | with_reducible rfl)); (simp only [Act.at, List.setIfInBounds_toArray, List.set_cons_zero, List.set_cons_succ]))
  | (refine take_unwanted (i := 13) rfl rfl (by kernel_rfl) (by kernel_rfl) (by kernel_rfl) (fun _ _ _ h => h) (by rfl) (by assumption) ?_; (simp only [Act.at, List.setIfInBounds_toArray, List.set_cons_zero, List.set_cons_succ]))
  first
  | (refine take_wanted (i := 14) (v := ?_) rfl rfl (by kernel_rfl) (by kernel_rfl) (by kernel_rfl) (fun _ _ _ h => h) (by rfl) (by assumption) ?_ ?_; rotate_left; (focus (intro w hSw; (try dsimp only at hSw); go_simp; first | done | with_reducible rfl)); (simp only [Act.at, List.setIfInBounds_toArray, List.set_cons_zero, List.set_cons_succ]))
  | (refine take_unwanted (i := 14) rfl rfl (by kernel_rfl) (by kernel_rfl) (by kernel_rfl) (fun _ _ _ h => h) (by rfl) (by assumption) ?_; (simp only [Act.at, List.setIfInBounds_toArray, List.set_cons_zero, List.set_cons_succ]))
  first
  | (refine take_wanted (i := 15) (v := ?_) rfl rfl (by kernel_rfl) (by kernel_rfl) (by kernel_rfl) (fun _ _ _ h => h) (by rfl) (by assumption) ?_ ?_; rotate_left; (focus (intro w hSw; (try dsimp only at hSw); go_simp; first | done | with_reducible rfl)); (simp only [Act.at, List.setIfInBounds_toArray, List.set_cons_zero, List.set_cons_succ]))
  | (refine take_unwanted (i := 15) rfl rfl (by kernel_rfl) (by kernel_rfl) (by kernel_rfl) (fun _ _ _ h => h) (by rfl) (by assumption) ?_; (simp only [Act.at, List.setIfInBounds_toArray, List.set_cons_zero, List.set_cons_succ]))
  first
  | (refine take_wanted (i := 17) (v := ?_) rfl rfl (by kernel_rfl) (by kernel_rfl) (by kernel_rfl) (fun _ _ _ h => h) (by rfl) (by assumption) ?_ ?_; rotate_left; (focus (intro w hSw; (try dsimp only at hSw); go_simp; first | done | with_reducible rfl)); (simp only [Act.at, List.setIfInBounds_toArray, List.set_cons_zero, List.set_cons_succ]))
  | (refine take_unwanted (i := 17) rfl rfl (by kernel_rfl) (by kernel_rfl) (by kernel_rfl) (fun _ _ _ h => h) (by rfl) (by assumption) ?_; (simp only [Act.at, List.setIfInBounds_toArray, List.set_cons_zero, List.set_cons_succ]))
  first
  | (refine take_wanted (i := 18) (v := ?_) rfl rfl (by kernel_rfl) (by kernel_rfl) (by kernel_rfl) (fun _ _ _ h => h) (by rfl) (by assumption) ?_ ?_; rotate_left; (focus (intro w hSw; (try dsimp only at hSw); go_simp; first | done | with_reducible rfl)); (simp only [Act.at, List.setIfInBounds_toArray, List.set_cons_zero, List.set_cons_succ]))
  | (refine take_unwanted (i := 18) rfl rfl (by kernel_rfl) (by kernel_rfl) (by kernel_rfl) (fun _ _ _ h => h) (by rfl) (by assumption) ?_; (simp only [Act.at, List.setIfInBounds_toArray, List.set_cons_zero, List.set_cons_succ]))
  first
  | (refine take_wanted (i := 19) (v := ?_) rfl rfl (by kernel_rfl) (by kernel_rfl) (by kernel_rfl) (fun _ _ _ h => h) (by rfl) (by assumption) ?_ ?_; rotate_left; (focus (intro w hSw; (try dsimp only at hSw); go_simp; first | done | with_reducible rfl)); (simp only [Act.at, List.setIfInBounds_toArray, List.set_cons_zero, List.set_cons_succ]))
  | (refine take_unwanted (i := 19) rfl rfl (by kernel_rfl) (by kernel_rfl) (by kernel_rfl) (fun _ _ _ h => h) (by rfl) (by assumption) ?_; (simp only [Act.at, List.setIfInBounds_toArray, List.set_cons_zero, List.set_cons_succ]))
  first
  | (refine take_wanted (i := 20) (v := ?_) rfl rfl (by kernel_rfl) (by kernel_rfl) (by kernel_rfl) (fun _ _ _ h => h) (by rfl) (by assumption) ?_ ?_; rotate_left; (focus (intro w hSw; (try dsimp only at hSw); go_simp; first | done | with_reducible rfl)); (simp only [Act.at, List.setIfInBounds_toArray, List.set_cons_zero, List.set_cons_succ]))
  | (refine take_unwanted (i := 20) rfl rfl (by kernel_rfl) (by kernel_rfl) (by kernel_rfl) (fun _ _ _ h => h) (by rfl) (by assumption) ?_; (simp only [Act.at, List.setIfInBounds_toArray, List.set_cons_zero, List.set_cons_succ]))
  first
  | (refine take_wanted (i := 21) (v := ?_) rfl rfl (by kernel_rfl) (by kernel_rfl) (by kernel_rfl) (fun _ _ _ h => h) (by rfl) (by assumption) ?_ ?_; rotate_left; (focus (intro w hSw; (try dsimp only at hSw); go_simp; first | done | with_reducible rfl)); (simp only [Act.at, List.setIfInBounds_toArray, List.set_cons_zero, List.set_cons_succ]))
  | (refine take_unwanted (i := 21) rfl rfl (by kernel_rfl) (by kernel_rfl) (by kernel_rfl) (fun _ _ _ h => h) (by rfl) (by assumption) ?_; (simp only [Act.at, List.setIfInBounds_toArray, List.set_cons_zero, List.set_cons_succ]))
  first
  | (refine take_wanted (i := 22) (v := ?_) rfl rfl (by kernel_rfl) (by kernel_rfl) (by kernel_rfl) (fun _ _ _ h => h) (by rfl) (by assumption) ?_ ?_; rotate_left; (focus (intro w hSw; (try dsimp only at hSw); go_simp; first | done | with_reducible rfl)); (simp only [Act.at, List.setIfInBounds_toArray, List.set_cons_zero, List.set_cons_succ]))
  | (refine take_unwanted (i := 22) rfl rfl (by kernel_rfl) (by kernel_rfl) (by kernel_rfl) (fun _ _ _ h => h) (by rfl) (by assumption) ?_; (simp only [Act.at, List.setIfInBounds_toArray, List.set_cons_zero, List.set_cons_succ]))
  refine wpTwoH (i := 16) (j := 23) (by kernel_rfl) rfl rfl (by rfl) (by rfl) (fun K hK => ?_) (fun K hK => ?_)
  · refine wp_due_load _ rfl _ _ rfl _ HE.out.2.1 _ rfl ?_
    refine hK.out _ _ hS (fun hHeld => ?_)
    clear hK K
    try simp only []
    simp only [Act.at, List.setIfInBounds_toArray, List.set_cons_zero, List.set_cons_succ]
    refine wpOneH (i := 23) (by kernel_rfl) rfl (by rfl) (fun K hK => ?_)
    refine wp_due_load _ rfl _ _ rfl _ HE.out.1 _ rfl ?_
    refine hK.out _ _ hS (fun hHeld => ?_)
    clear hK K
    try simp only []
    simp only [Act.at, List.setIfInBounds_toArray, List.set_cons_zero, List.set_cons_succ]
    first
    | (refine take_wanted (i := 24) (v := ?_) rfl rfl (by kernel_rfl) (by kernel_rfl) (by kernel_rfl) (fun _ _ _ h => h) (by rfl) (by assumption) ?_ ?_; rotate_left; (focus (intro w hSw; (try dsimp only at hSw); go_simp; first | done | with_reducible rfl)); (simp only [Act.at, List.setIfInBounds_toArray, List.set_cons_zero, List.set_cons_succ]))
    | (refine take_unwanted (i := 24) rfl rfl (by kernel_rfl) (by kernel_rfl) (by kernel_rfl) (fun _ _ _ h => h) (by rfl) (by assumption) ?_; (simp only [Act.at, List.setIfInBounds_toArray, List.set_cons_zero, List.set_cons_succ]))
    refine wpOneH (i := 25) (by kernel_rfl) rfl (by rfl) (fun K hK => ?_)
    refine wp_due_store _ _ rfl _ _ rfl ⟨ys, yd⟩ rfl HE.out.2.2.1 rfl ?_
    refine hK.out _ _ HE.out.2.2.2.2.1 (fun hHeld => ?_)
    clear hK K
    try simp only [Act.put, List.setIfInBounds_toArray, List.set_cons_zero, List.set_cons_succ]
    first
    | (refine take_wanted (i := 26) (v := ?_) rfl rfl (by kernel_rfl) (by kernel_rfl) (by kernel_rfl) (fun _ _ _ h => h) (by rfl) (by assumption) ?_ ?_; rotate_left; (focus (intro w hSw; (try dsimp only at hSw); go_simp; first | done | with_reducible rfl)); (simp only [Act.at, List.setIfInBounds_toArray, List.set_cons_zero, List.set_cons_succ]))
    | (refine take_unwanted (i := 26) rfl rfl (by kernel_rfl) (by kernel_rfl) (by kernel_rfl) (fun _ _ _ h => h) (by rfl) (by assumption) ?_; (simp only [Act.at, List.setIfInBounds_toArray, List.set_cons_zero, List.set_cons_succ]))
    refine wpOneH (i := 27) (by kernel_rfl) rfl (by rfl) (fun K hK => ?_)
    refine wp_due_store _ _ rfl _ _ rfl ⟨xs, xd⟩ rfl HE.out.2.2.2.1 rfl ?_
    refine hK.out _ _ HE.out.2.2.2.2.2 (fun hHeld => ?_)
    clear hK K
    try simp only [Act.put, List.setIfInBounds_toArray, List.set_cons_zero, List.set_cons_succ]
    refine wpAnyH_done (by kernel_rfl) ?_ _
    have HM3 := Lib.hid ((HMVX.out.trans (Mv.of_only (only_setCells B (Du.mk ys yd).cs (i * 2) wd) (s := [B]) (by simp))).trans (Mv.of_only (only_setCells B (Du.mk xs xd).cs (k * 2) _) (s := [B]) (by simp)))
    generalize (wd.setCells B (i * 2) (Du.mk ys yd).cs).setCells B (k * 2) (Du.mk xs xd).cs = W3 at HSWX HM3 ⊢
    clear HE HMVX hS
    go_wp2_with fail
    go_returns
    exact ⟨rfl, HSWX.out, HM3.out⟩
  · refine wp_due_load _ rfl _ _ rfl _ HE.out.1 _ rfl ?_
    refine hK.out _ _ hS (fun hHeld => ?_)
    clear hK K
    try simp only []
    simp only [Act.at, List.setIfInBounds_toArray, List.set_cons_zero, List.set_cons_succ]
    refine wpOneH (i := 16) (by kernel_rfl) rfl (by rfl) (fun K hK => ?_)
    refine wp_due_load _ rfl _ _ rfl _ HE.out.2.1 _ rfl ?_
    refine hK.out _ _ hS (fun hHeld => ?_)
    clear hK K
    try simp only []
    simp only [Act.at, List.setIfInBounds_toArray, List.set_cons_zero, List.set_cons_succ]
    first
    | (refine take_wanted (i := 24) (v := ?_) rfl rfl (by kernel_rfl) (by kernel_rfl) (by kernel_rfl) (fun _ _ _ h => h) (by rfl) (by assumption) ?_ ?_; rotate_left; (focus (intro w hSw; (try dsimp only at hSw); go_simp; first | done | with_reducible rfl)); (simp only [Act.at, List.setIfInBounds_toArray, List.set_cons_zero, List.set_cons_succ]))
    | (refine take_unwanted (i := 24) rfl rfl (by kernel_rfl) (by kernel_rfl) (by kernel_rfl) (fun _ _ _ h => h) (by rfl) (by assumption) ?_; (simp only [Act.at, List.setIfInBounds_toArray, List.set_cons_zero, List.set_cons_succ]))
    refine wpOneH (i := 25) (by kernel_rfl) rfl (by rfl) (fun K hK => ?_)
    refine wp_due_store _ _ rfl _ _ rfl ⟨ys, yd⟩ rfl HE.out.2.2.1 rfl ?_
    refine hK.out _ _ HE.out.2.2.2.2.1 (fun hHeld => ?_)
    clear hK K
    try simp only [Act.put, List.setIfInBounds_toArray, List.set_cons_zero, List.set_cons_succ]
    first
    | (refine take_wanted (i := 26) (v := ?_) rfl rfl (by kernel_rfl) (by kernel_rfl) (by kernel_rfl) (fun _ _ _ h => h) (by rfl) (by assumption) ?_ ?_; rotate_left; (focus (intro w hSw; (try dsimp only at hSw); go_simp; first | done | with_reducible rfl)); (simp only [Act.at, List.setIfInBounds_toArray, List.set_cons_zero, List.set_cons_succ]))
    | (refine take_unwanted (i := 26) rfl rfl (by kernel_rfl) (by kernel_rfl) (by kernel_rfl) (fun _ _ _ h => h) (by rfl) (by assumption) ?_; (simp only [Act.at, List.setIfInBounds_toArray, List.set_cons_zero, List.set_cons_succ]))
    refine wpOneH (i := 27) (by kernel_rfl) rfl (by rfl) (fun K hK => ?_)
    refine wp_due_store _ _ rfl _ _ rfl ⟨xs, xd⟩ rfl HE.out.2.2.2.1 rfl ?_
    refine hK.out _ _ HE.out.2.2.2.2.2 (fun hHeld => ?_)
    clear hK K
    try simp only [Act.put, List.setIfInBounds_toArray, List.set_cons_zero, List.set_cons_succ]
    refine wpAnyH_done (by kernel_rfl) ?_ _
    have HM3 := Lib.hid ((HMVX.out.trans (Mv.of_only (only_setCells B (Du.mk ys yd).cs (i * 2) wd) (s := [B]) (by simp))).trans (Mv.of_only (only_setCells B (Du.mk xs xd).cs (k * 2) _) (s := [B]) (by simp)))
    generalize (wd.setCells B (i * 2) (Du.mk ys yd).cs).setCells B (k * 2) (Du.mk xs xd).cs = W3 at HSWX HM3 ⊢
    clear HE HMVX hS
    go_wp2_with fail
    go_returns
    exact ⟨rfl, HSWX.out, HM3.out⟩
set_option maxRecDepth 100000 in
theorem parent_any {k : Nat} (h0 : 0 < k) (h1 : k ≤ 1000000) (w : World) : Calls Try.prog 35 #[.int .i64 (k : Int)] w fun r w' => r = .returned (.int .i64 (Du.par k : Nat)) ∧ w' = w := by
  obtain ⟨p, hp⟩ : ∃ p, Du.par k = p := ⟨_, rfl⟩
  rw [hp]
  unfold Du.par at hp
  have hw1 : IntKind.i64.wrap ((k : Int) - 1) = ((k - 1 : Nat) : Int) := by rw [IntKind.wrap_i64]; omega
  have hw2 : IntKind.i64.wrap (((k - 1 : Nat) : Int).tdiv 2) = (p : Int) := by rw [Int.tdiv_eq_ediv_of_nonneg (by omega), IntKind.wrap_i64]; omega
  have hpd : ((k - 1 : Nat) : Int) / 2 = (p : Int) := by omega
  have HW : Hid (wrap64 (p : Int) = (p : Int)) := Lib.hid (by unfold wrap64; omega)
  clear h0 h1 hp
  go_enter Try.func35, Try.ntmps35
  go_wp2_with fail
  go_ret
  refine ⟨?_, rfl⟩
  show Ending.returned (.int .i64 (wrap64 (p : Int))) = _
  rw [HW.out]
set_option maxRecDepth 100000 in
set_option maxHeartbeats 4000000 in
theorem rise_any {w : World} {q B cap : Nat} {h : List Du} {i : Nat} (H : HAt w q B h cap) (hi : i < h.length) (hl : h.length ≤ 1000000) :
    Calls Try.prog 21 #[.pointer (some ⟨q, 0, none⟩), .int .i64 (i : Int)] w fun r w' => r = .returned (.tuple #[]) ∧ ∃ h', h'.Perm h ∧ (Du.UpAt h i → Du.Heap h') ∧ (i = 0 ∨ Du.lt (Du.g h i) (Du.g h (Du.par i)) = false → h' = h) ∧ HAt w' q B h' cap ∧ Mv w w' [B] := by
  have HH := Lib.hid H
  have HI := Lib.hid (And.intro hi hl)
  clear H hi hl
  go_enter Try.func21, Try.ntmps21
  go_wp2_with fail
  go_loopg [1] i (fun n v1 wr => ∃ (k : Nat) (g : List Du), k = n ∧ v1 = .int .i64 (k : Int) ∧ Hid (k < g.length ∧ g.length = h.length) ∧ Hid (g.Perm h ∧ (Du.UpAt h i → Du.UpAt g k) ∧ (i = 0 ∨ Du.lt (Du.g h i) (Du.g h (Du.par i)) = false → g = h ∧ k = i) ∧ HAt wr q B g cap ∧ Mv w wr [B]))
  case atStart => exact ⟨i, h, rfl, rfl, Lib.hid ⟨HI.out.1, rfl⟩, Lib.hid ⟨List.Perm.refl _, id, fun _ => ⟨rfl, rfl⟩, HH.out, Mv.refl _ _⟩⟩
  case round =>
    obtain ⟨k, g, rfl, rfl, HK, HR⟩ := hrel
    by_cases hk0 : k = 0
    · subst hk0
      have hn : ¬ (0 : Int) < ((0 : Nat) : Int) := by omega
      go_wp2_with fail
      go_returns
      obtain ⟨r1, r2, r3, r4, r5⟩ := HR.out
      exact ⟨rfl, g, r1, fun h => Du.up_done (r2 h) (Or.inl rfl), fun h => (r3 h).1, r4, r5⟩
    · have hpos : (0 : Int) < (k : Int) := by omega
      have hkp : 0 < k := by omega
      have hkl : k ≤ 1000000 := by have := HK.out; have := HI.out; omega
      have HPK : Hid (Du.par k < k ∧ Du.par k < g.length) := Lib.hid (by have := HK.out; unfold Du.par; omega)
      have HPA := Lib.hid (parent_any hkp hkl)
      have HBF := Lib.hid (before_any HR.out.2.2.2.1 HK.out.1 HPK.out.2)
      have HSTOP := Lib.hid (fun (h2 : Du.UpAt h i) (h : Du.lt (Du.g g k) (Du.g g (Du.par k)) = false) => Du.up_done (HR.out.2.1 h2) (Or.inr h))
      have HSTEP := Lib.hid (fun (h2 : Du.UpAt h i) (h : Du.lt (Du.g g k) (Du.g g (Du.par k)) = true) => Du.up_step (HR.out.2.1 h2) hkp HK.out.1 h)
      have HSAME : Hid (Du.lt (Du.g g k) (Du.g g (Du.par k)) = true → (i = 0 ∨ Du.lt (Du.g h i) (Du.g h (Du.par i)) = false) → False) := Lib.hid (fun h1 h2 => by
        obtain ⟨e1, e2⟩ := HR.out.2.2.1 h2
        rw [e1, e2] at h1
        rcases h2 with h2 | h2
        · omega
        · rw [h1] at h2; cases h2)
      have HPERM := Lib.hid ((Du.sw_perm HK.out.1 HPK.out.2).trans HR.out.1)
      have HSW := Lib.hid (fun (W : World) (hb : Below wr.heap.size wr W) => swap_any (HR.out.2.2.2.1.below hb) HK.out.1 HPK.out.2)
      obtain ⟨lt, hlt⟩ : ∃ lt, Du.lt (Du.g g k) (Du.g g (Du.par k)) = lt := ⟨_, rfl⟩
      rw [hlt] at HSTOP HSTEP HBF HSAME
      have hswl := Du.sw_len g k (Du.par k)
      generalize Du.sw g k (Du.par k) = g2 at HSTEP HPERM HSW hswl
      have HL2 : Hid (Du.par k < g2.length ∧ g2.length = h.length) := Lib.hid ⟨by rw [hswl]; exact HPK.out.2, by rw [hswl]; exact HK.out.2⟩
      generalize Du.par k = p at HPA HBF HL2 HPK HSTEP HSW
      clear hlt hswl hkp hkl hk0
      go_wp2_with fail
      refine (HPA.out _).mono ?_
      rintro r w1 ⟨rfl, e1⟩
      rw [e1]
      clear e1 w1
      go_wp2_with fail
      refine HBF.out.mono ?_
      rintro r w1 ⟨rfl, hb1⟩
      have HB1 := Lib.hid hb1
      clear hb1
      cases lt with
      | false =>
        go_wp2_with fail
        go_returns
        obtain ⟨r1, r2, r3, r4, r5⟩ := HR.out
        exact ⟨rfl, g, r1, fun h => HSTOP.out h (by trivial), fun h => (r3 h).1, r4.below HB1.out, r5.trans (Mv.of_below HB1.out [B])⟩
      | true =>
        go_wp2_with fail
        refine (HPA.out _).mono ?_
        rintro r w2 ⟨rfl, e2⟩
        rw [e2]
        clear e2 w2
        go_wp2_with fail
        refine (HSW.out w1 HB1.out).mono ?_
        rintro r w2 ⟨rfl, hat2, hm2⟩
        have HAT2 := Lib.hid hat2
        have HM2 := Lib.hid ((HR.out.2.2.2.2.trans (Mv.of_below HB1.out [B])).trans hm2)
        clear hat2 hm2
        go_wp2_with fail
        refine (HPA.out _).mono ?_
        rintro r w3 ⟨rfl, e3⟩
        rw [e3]
        clear e3 w3
        go_wp2_with fail
        go_roundg p
        case measure => exact HPK.out.1
        case rel => exact ⟨p, g2, rfl, rfl, HL2, Lib.hid ⟨HPERM.out, fun h => HSTEP.out h (by trivial), fun h => absurd h (HSAME.out (by trivial)), HAT2.out, HM2.out⟩⟩
end Go.Proofs.Ytjmdpepghnhpkaa
