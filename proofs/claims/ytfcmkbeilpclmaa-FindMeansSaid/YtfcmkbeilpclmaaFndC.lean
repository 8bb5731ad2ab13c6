/-
  The contract of find's Holds.
-/
import Derived.Test.YtfcmkbeilpclmaaFndA
import Derived.Test.YtfcmkbeilpclmaaFndB
import Derived.Test.YtfcmkbeilpclmaaTake
import Derived.Test.YtfcmkbeilpclmaaMv
namespace Go.Proofs.Ytfcmkbeilpclmaa
open Go.RowKit Go.Lib
set_option linter.unusedVariables false

theorem belowDrew {B : Nat} {w w1 : World} (h : Below B w w1) (k : Nat) : Below B w (w1.drewN k) := h.trans ⟨rfl, rfl, rfl, Nat.le_refl _, fun _ _ => rfl⟩
theorem Fnd.field_val {L : List Fld} {n : List UInt8} {v : Val} (h : Fnd.field L n = some v) : Fnd.fieldV L n = .tuple #[v.v, .bool true] := by unfold Fnd.fieldV; rw [h]
theorem Fnd.field_no {L : List Fld} {n : List UInt8} (h : Fnd.field L n = none) : Fnd.fieldV L n = .tuple #[.agg (vcs5 0 false 0 0 []), .bool false] := by unfold Fnd.fieldV; rw [h]; rfl
abbrev HoldsS (g1 g2 : Nat) (n : List UInt8) (lk : Int) (lf : Bool) (li : Int) (lb : Nat) (lt : List UInt8) (hk : Int) (hf : Bool) (hi : Int) (hb : Nat) (ht : List UInt8) (a b c : Bool) (k : Int) (f : Bool) (i : Int) (bb : Nat) (tx : List UInt8) (W : World) : Prop :=
  TLies g1 n lk lf li lb lt hk hf hi hb ht a b c W ∧ VLies g2 k f i bb tx W

set_option maxHeartbeats 4000000 in
set_option maxRecDepth 100000 in
theorem holds_any (t : Fnd.Trm) (p : Ppr) (ht : t.Ok) (w : World) (hp : p.In w) :
    Calls Try.prog 12 #[t.v, p.v] w fun r w' => r = .returned (.bool (Fnd.holds t p.L)) ∧ Below w.heap.size w w' := by
  have HF : Hid (_ : Prop) := Lib.hid (fun W (h : Below w.heap.size w W) => ffield_any p t.name W (hp.below h))
  have hW := fun (v : Val) (hv : v.ok) W => within_any t v ht hv W
  obtain ⟨res, hres⟩ : ∃ r, r = Fnd.holds t p.L := ⟨_, rfl⟩
  rw [← hres]
  unfold Fnd.holds at hres
  have hok := hp.ok
  obtain ⟨n, ⟨lk, lf, li, lb, lt⟩, ⟨hk, hf, hi, hb, htx⟩, a, b, c⟩ := t
  obtain ⟨id, cls, A, L, cap, pb⟩ := p
  rw [Fnd.Trm.v_eq] at hW ⊢
  unfold Ppr.v at HF ⊢
  dsimp only at HF hres hok ⊢
  clear ht hp
  have hT := (Has.made w 37 (tcs n lk lf li lb lt hk hf hi hb htx a b c)).of_alloc (.cells #[.string (S id), .int .i64 cls, .slice A L.length cap] 27)
  have hP := has_new w (.cells (tcs n lk lf li lb lt hk hf hi hb htx a b c) 37) 27 #[.string (S id), .int .i64 cls, .slice A L.length cap]
  have hB := up2 (w := w) (.cells (tcs n lk lf li lb lt hk hf hi hb htx a b c) 37) (.cells #[.string (S id), .int .i64 cls, .slice A L.length cap] 27)
  go_enter Try.func12, Try.ntmps12
  go_upto_region 1 with fail
  have hz : ((w.alloc (.cells (tcs n lk lf li lb lt hk hf hi hb htx a b c) 37)).alloc (.cells #[.string (S id), .int .i64 cls, .slice A L.length cap] 27)).heap.size = w.heap.size + 2 := by simp
  generalize (w.alloc (.cells (tcs n lk lf li lb lt hk hf hi hb htx a b c) 37)).alloc (.cells #[.string (S id), .int .i64 cls, .slice A L.length cap] 27) = W0 at hT hP hB hz ⊢
  have t0 := hT.cell 0
  have p0 := hP.cell 0
  have p1 := hP.cell 1
  have p2 := hP.cell 2
  have HT := Lib.hid hT; clear hT hP
  have HB := Lib.hid hB; clear hB
  go_wp2_with fail
  refine (HF.out _ HB.out).mono ?_
  rintro r W1 ⟨rfl, hb1⟩
  have HT1 := Lib.hid (HT.out.below hb1 (by omega))
  have HB1 := Lib.hid (HB.out.trans (hb1.mono HB.out.size))
  have hz1 := hb1.size
  rw [hz] at hz1
  clear hb1 HT HB hz HF t0 p0 p1 p2 W0
  cases hfd : Fnd.field L n with
  | none =>
    rw [hfd] at hres
    dsimp only at hres
    have hx := Fnd.field_no hfd
    clear hfd
    rw [hx]
    clear hx hW HT1 hok
    go_wp2_with fail
    go_quiet (fail)
    go_wp2_with fail
    go_ret
    exact ⟨by rw [hres]; rfl, belowDrew (HB1.out.trans ((up1 _).mono HB1.out.size)) _⟩
  | some v =>
    rw [hfd] at hres
    dsimp only at hres
    have hv := Fnd.field_ok hok hfd
    have hx := Fnd.field_val hfd
    have hWv := hW v hv
    rw [hx]
    clear hx hfd hW hok hv
    obtain ⟨k, f, i, bb, tx⟩ := v
    rw [Val.v_eq] at hWv ⊢
    generalize (Fnd.inLow _ _ && Fnd.inTop _ _) = q at hWv hres
    have HW := Lib.hid hWv; clear hWv
    have hV2 := Has.made W1 35 (vcs5 k f i bb tx)
    have hT2 := HT1.out.of_alloc (.cells (vcs5 k f i bb tx) 35)
    have hB2 := HB1.out.trans ((up1 (w := W1) (.cells (vcs5 k f i bb tx) 35)).mono HB1.out.size)
    have hs2 : (W1.alloc (.cells (vcs5 k f i bb tx) 35)).heap.size = W1.heap.size + 1 := by simp
    go_upto_region 2 with fail
    generalize W1.alloc (.cells (vcs5 k f i bb tx) 35) = W2 at hV2 hT2 hB2 hs2 ⊢
    obtain ⟨g2, hg2⟩ : ∃ g, W1.heap.size = g := ⟨_, rfl⟩
    rw [hg2] at hV2 hs2 hz1 ⊢
    have hgl : w.heap.size < W2.heap.size := by omega
    have hgl2 : g2 < W2.heap.size := by omega
    clear hg2 HT1 HB1
    have HT2 := Lib.hid hT2
    have HV2 := Lib.hid hV2
    have HB2 := Lib.hid hB2
    clear hT2 hV2 hB2
    have hx : HoldsS w.heap.size g2 n lk lf li lb lt hk hf hi hb htx a b c k f i bb tx W2.drew := ⟨tlies HT2.out, vlies HV2.out⟩
    refine wp_region_held_drew (S := HoldsS w.heap.size g2 n lk lf li lb lt hk hf hi hb htx a b c k f i bb tx) (by kernel_rfl) hx (fun hHeld => ?_)
    first
    | (refine take_wanted (i := 0) (v := ?_) rfl rfl (by kernel_rfl) (by kernel_rfl) (by kernel_rfl) (fun _ _ _ h => h) (by rfl) (by assumption) ?_ ?_; rotate_left; (focus (intro w hSw; (try dsimp only at hSw); go_simp; first | done | with_reducible rfl)); (simp only [Act.at, List.setIfInBounds_toArray, List.set_cons_zero, List.set_cons_succ]))
    | (refine take_unwanted (i := 0) rfl rfl (by kernel_rfl) (by kernel_rfl) (by kernel_rfl) (fun _ _ _ h => h) (by rfl) (by assumption) ?_; (simp only [Act.at, List.setIfInBounds_toArray, List.set_cons_zero, List.set_cons_succ]))
    first
    | (refine take_wanted (i := 1) (v := ?_) rfl rfl (by kernel_rfl) (by kernel_rfl) (by kernel_rfl) (fun _ _ _ h => h) (by rfl) (by assumption) ?_ ?_; rotate_left; (focus (intro w hSw; (try dsimp only at hSw); go_simp; first | done | with_reducible rfl)); (simp only [Act.at, List.setIfInBounds_toArray, List.set_cons_zero, List.set_cons_succ]))
    | (refine take_unwanted (i := 1) rfl rfl (by kernel_rfl) (by kernel_rfl) (by kernel_rfl) (fun _ _ _ h => h) (by rfl) (by assumption) ?_; (simp only [Act.at, List.setIfInBounds_toArray, List.set_cons_zero, List.set_cons_succ]))
    first
    | (refine take_wanted (i := 2) (v := ?_) rfl rfl (by kernel_rfl) (by kernel_rfl) (by kernel_rfl) (fun _ _ _ h => h) (by rfl) (by assumption) ?_ ?_; rotate_left; (focus (intro w hSw; (try dsimp only at hSw); go_simp; first | done | with_reducible rfl)); (simp only [Act.at, List.setIfInBounds_toArray, List.set_cons_zero, List.set_cons_succ]))
    | (refine take_unwanted (i := 2) rfl rfl (by kernel_rfl) (by kernel_rfl) (by kernel_rfl) (fun _ _ _ h => h) (by rfl) (by assumption) ?_; (simp only [Act.at, List.setIfInBounds_toArray, List.set_cons_zero, List.set_cons_succ]))
    first
    | (refine take_wanted (i := 3) (v := ?_) rfl rfl (by kernel_rfl) (by kernel_rfl) (by kernel_rfl) (fun _ _ _ h => h) (by rfl) (by assumption) ?_ ?_; rotate_left; (focus (intro w hSw; (try dsimp only at hSw); go_simp; first | done | with_reducible rfl)); (simp only [Act.at, List.setIfInBounds_toArray, List.set_cons_zero, List.set_cons_succ]))
    | (refine take_unwanted (i := 3) rfl rfl (by kernel_rfl) (by kernel_rfl) (by kernel_rfl) (fun _ _ _ h => h) (by rfl) (by assumption) ?_; (simp only [Act.at, List.setIfInBounds_toArray, List.set_cons_zero, List.set_cons_succ]))
    first
    | (refine take_wanted (i := 5) (v := ?_) rfl rfl (by kernel_rfl) (by kernel_rfl) (by kernel_rfl) (fun _ _ _ h => h) (by rfl) (by assumption) ?_ ?_; rotate_left; (focus (intro w hSw; (try dsimp only at hSw); go_simp; first | done | with_reducible rfl)); (simp only [Act.at, List.setIfInBounds_toArray, List.set_cons_zero, List.set_cons_succ]))
    | (refine take_unwanted (i := 5) rfl rfl (by kernel_rfl) (by kernel_rfl) (by kernel_rfl) (fun _ _ _ h => h) (by rfl) (by assumption) ?_; (simp only [Act.at, List.setIfInBounds_toArray, List.set_cons_zero, List.set_cons_succ]))
    first
    | (refine take_wanted (i := 6) (v := ?_) rfl rfl (by kernel_rfl) (by kernel_rfl) (by kernel_rfl) (fun _ _ _ h => h) (by rfl) (by assumption) ?_ ?_; rotate_left; (focus (intro w hSw; (try dsimp only at hSw); go_simp; first | done | with_reducible rfl)); (simp only [Act.at, List.setIfInBounds_toArray, List.set_cons_zero, List.set_cons_succ]))
    | (refine take_unwanted (i := 6) rfl rfl (by kernel_rfl) (by kernel_rfl) (by kernel_rfl) (fun _ _ _ h => h) (by rfl) (by assumption) ?_; (simp only [Act.at, List.setIfInBounds_toArray, List.set_cons_zero, List.set_cons_succ]))
    refine take_call (i := 4) (by kernel_rfl) rfl rfl (by rfl) (fun K hK => ?_)
    go_simp
    refine (HW.out _).mono ?_
    rintro r W3 ⟨rfl, hb3⟩
    have hb3' : Below W2.heap.size W2 W3 := ⟨hb3.os, hb3.tape, hb3.output, hb3.size, hb3.block⟩
    clear hx
    have hx : HoldsS w.heap.size g2 n lk lf li lb lt hk hf hi hb htx a b c k f i bb tx W3 := ⟨tlies (HT2.out.below hb3' hgl), vlies (HV2.out.below hb3' hgl2)⟩
    have HB3 := Lib.hid (HB2.out.trans (hb3'.mono HB2.out.size))
    clear hb3 hb3'
    refine hK.out _ _ hx (fun hHeld => ?_)
    clear hK K
    try simp only [Act.put, List.setIfInBounds_toArray, List.set_cons_zero, List.set_cons_succ]
    first
    | (refine take_wanted (i := 7) (v := ?_) rfl rfl (by kernel_rfl) (by kernel_rfl) (by kernel_rfl) (fun _ _ _ h => h) (by rfl) (by assumption) ?_ ?_; rotate_left; (focus (intro w hSw; (try dsimp only at hSw); go_simp; first | done | with_reducible rfl)); (simp only [Act.at, List.setIfInBounds_toArray, List.set_cons_zero, List.set_cons_succ]))
    | (refine take_unwanted (i := 7) rfl rfl (by kernel_rfl) (by kernel_rfl) (by kernel_rfl) (fun _ _ _ h => h) (by rfl) (by assumption) ?_; (simp only [Act.at, List.setIfInBounds_toArray, List.set_cons_zero, List.set_cons_succ]))
    first
    | (refine take_wanted (i := 8) (v := ?_) rfl rfl (by kernel_rfl) (by kernel_rfl) (by kernel_rfl) (fun _ _ _ h => h) (by rfl) (by assumption) ?_ ?_; rotate_left; (focus (intro w hSw; (try dsimp only at hSw); go_simp; first | done | with_reducible rfl)); (simp only [Act.at, List.setIfInBounds_toArray, List.set_cons_zero, List.set_cons_succ]))
    | (refine take_unwanted (i := 8) rfl rfl (by kernel_rfl) (by kernel_rfl) (by kernel_rfl) (fun _ _ _ h => h) (by rfl) (by assumption) ?_; (simp only [Act.at, List.setIfInBounds_toArray, List.set_cons_zero, List.set_cons_succ]))
    first
    | (refine take_wanted (i := 9) (v := ?_) rfl rfl (by kernel_rfl) (by kernel_rfl) (by kernel_rfl) (fun _ _ _ h => h) (by rfl) (by assumption) ?_ ?_; rotate_left; (focus (intro w hSw; (try dsimp only at hSw); go_simp; first | done | with_reducible rfl)); (simp only [Act.at, List.setIfInBounds_toArray, List.set_cons_zero, List.set_cons_succ]))
    | (refine take_unwanted (i := 9) rfl rfl (by kernel_rfl) (by kernel_rfl) (by kernel_rfl) (fun _ _ _ h => h) (by rfl) (by assumption) ?_; (simp only [Act.at, List.setIfInBounds_toArray, List.set_cons_zero, List.set_cons_succ]))
    refine wpAnyH_done (by kernel_rfl) ?_ _
    go_wp2_with fail
    go_ret
    exact ⟨by rw [hres]; rfl, HB3.out⟩
end Go.Proofs.Ytfcmkbeilpclmaa
