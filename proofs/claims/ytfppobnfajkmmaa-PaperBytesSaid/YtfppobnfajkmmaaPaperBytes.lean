/-
  The contract of PaperBytes.
-/
import Derived.Test.YtfppobnfajkmmaaPapK
import Derived.Test.YtfppobnfajkmmaaPapT
import Derived.Test.YtfppobnfajkmmaaPapRead
import Derived.Test.YtfppobnfajkmmaaPapF
import Derived.Test.YtfppobnfajkmmaaPapG
import Derived.Test.YtfppobnfajkmmaaPapH
import Derived.Test.YtfppobnfajkmmaaPapAwake
import Derived.Test.YtfppobnfajkmmaaPapArg
namespace Go.Proofs.Ytfppobnfajkmmaa
open Go.ChangeShapes Go.WideShapes Go.ChangeAt Go.RowKit
open Go.ChangeMaps (open_string shut_string)
set_option linter.unusedVariables false

theorem enc_small {id : List UInt8} {cls : Int} {T : List Fld} (hid : id.length ≤ 24) (hT : T.length ≤ 12) (hg : ∀ f ∈ T, Pap.good f) : (Pap.enc id cls T).length ≤ 1000000 := by
  rw [Pap.enc_eq]
  have h1 := M.encL_len id.length
  have h2 := M.encL_len cls
  have h3 := M.encL_len T.length
  have h4 := Pap.encF_len T hg
  simp only [List.length_append]
  omega

theorem paper_set {w : World} {g : Nat} {x0 x1 x2 : Value} (h : Has w g 24 #[x0, x1, x2]) (a b c : Value) :
    Has (((w.setCell ⟨g, 0, none⟩ a).setCell ⟨g, 1, none⟩ b).setCell ⟨g, 2, none⟩ c) g 24 #[a, b, c] := by
  have := ((h.set 0 a).set 1 b).set 2 c
  simpa using this
theorem paper_only (w : World) (g : Nat) (a b c : Value) : Only w (((w.setCell ⟨g, 0, none⟩ a).setCell ⟨g, 1, none⟩ b).setCell ⟨g, 2, none⟩ c) g :=
  ((Only.set w g 0 a).trans (Only.set _ g 1 b)).trans (Only.set _ g 2 c)
/-- The paper's own block, and its fields' row. -/
def PW (w0 W : World) (id : List UInt8) (cls : Int) (A : Option Addr) (L : List Fld) (b cap : Nat) : Prop :=
  Has W w0.heap.size 24 #[.string (S id), .int .i64 cls, .slice A L.length cap] ∧ FSl W b A L ∧ Below w0.heap.size w0 W
theorem PW.below {w0 W W' : World} {id : List UInt8} {cls : Int} {A : Option Addr} {L : List Fld} {b cap : Nat} (h : PW w0 W id cls A L b cap) (hb : Below W.heap.size W W') : PW w0 W' id cls A L b cap :=
  ⟨h.1.below hb h.1.lt, h.2.1.below hb (Nat.le_refl _), h.2.2.trans (hb.mono h.2.2.size)⟩
theorem PW.drew {w0 W : World} {id : List UInt8} {cls : Int} {A : Option Addr} {L : List Fld} {b cap : Nat} (h : PW w0 W id cls A L b cap) : PW w0 W.drew id cls A L b cap := ⟨h.1, h.2.1, h.2.2.drew⟩
theorem PW.lies {w0 W : World} {id : List UInt8} {cls : Int} {A : Option Addr} {L : List Fld} {b cap : Nat} (h : PW w0 W id cls A L b cap) : PLies w0.heap.size id cls A L.length cap W := ⟨h.1.cell 0, h.1.cell 1, h.1.cell 2⟩
/-- .. and another paper's, that was read. -/
def PW2 (w0 W : World) (id : List UInt8) (cls : Int) (A : Option Addr) (L : List Fld) (b cap : Nat) (g : Nat) (A2 : Option Addr) (T : List Fld) (b2 cap2 : Nat) : Prop :=
  PW w0 W id cls A L b cap ∧ Has W g 24 #[.string (S id), .int .i64 cls, .slice A2 L.length cap2] ∧ FSl W b2 A2 T
theorem PW2.below {w0 W W' : World} {id : List UInt8} {cls : Int} {A : Option Addr} {L : List Fld} {b cap : Nat} {g : Nat} {A2 : Option Addr} {T : List Fld} {b2 cap2 : Nat} (h : PW2 w0 W id cls A L b cap g A2 T b2 cap2) (hb : Below W.heap.size W W') : PW2 w0 W' id cls A L b cap g A2 T b2 cap2 :=
  ⟨h.1.below hb, h.2.1.below hb h.2.1.lt, h.2.2.below hb (Nat.le_refl _)⟩
abbrev PLies2 (g g2 : Nat) (id : List UInt8) (cls : Int) (A : Option Addr) (n cap : Nat) (A2 : Option Addr) (cap2 : Nat) (W : World) : Prop :=
  W.cell? ⟨g, 0, none⟩ = some (.string (S id)) ∧ W.cell? ⟨g, 1, none⟩ = some (.int .i64 cls) ∧ W.cell? ⟨g, 2, none⟩ = some (.slice A n cap) ∧
  W.cell? ⟨g2, 0, none⟩ = some (.string (S id)) ∧ W.cell? ⟨g2, 1, none⟩ = some (.int .i64 cls) ∧ W.cell? ⟨g2, 2, none⟩ = some (.slice A2 n cap2)
theorem PW2.lies {w0 W : World} {id : List UInt8} {cls : Int} {A : Option Addr} {L : List Fld} {b cap : Nat} {g : Nat} {A2 : Option Addr} {T : List Fld} {b2 cap2 : Nat} (h : PW2 w0 W id cls A L b cap g A2 T b2 cap2) : PLies2 w0.heap.size g id cls A L.length cap A2 cap2 W :=
  ⟨h.1.1.cell 0, h.1.1.cell 1, h.1.1.cell 2, h.2.1.cell 0, h.2.1.cell 1, h.2.1.cell 2⟩
/-- What Few leaves behind in a block of the paper's own. -/
def FewAt (w : World) (id0 : List UInt8) (cls : Int) (A0 : Option Addr) (n0 cap0 : Nat) (id : List UInt8) (L : List Fld) : Prop :=
  Calls Try.prog 6 #[.agg #[.string (S id0), .int .i64 cls, .slice A0 n0 cap0]] (w.alloc (.cells #[.string (S id0), .int .i64 cls, .slice A0 n0 cap0] 24))
      fun r w' => ∃ A b cap, r = .returned (.agg #[.string (S id), .int .i64 cls, .slice A L.length cap]) ∧ b ≠ w.heap.size ∧ FSl w' b A L ∧ Has w' w.heap.size 24 #[.string (S id0), .int .i64 cls, .slice A0 n0 cap0] ∧ Below w.heap.size w w'
theorem few_at (id0 : List UInt8) (cls : Int) (L0 : List Fld) (b0 cap0 : Nat) (A0 : Option Addr) (w : World) (hF : FSl w b0 A0 L0) (hL : L0.length ≤ 4611686018427387904) (hid : id0.length ≤ 4611686018427387904)
    (hN : ∀ x ∈ L0, x.name.length ≤ 4611686018427387904 ∧ x.val.text.length ≤ 4611686018427387904) : FewAt w id0 cls A0 L0.length cap0 (id0.take 300) (Pap.few L0) := by
  have hb0 := up1 (w := w) (.cells #[.string (S id0), .int .i64 cls, .slice A0 L0.length cap0] 24)
  have hH := Has.made w 24 #[.string (S id0), .int .i64 cls, .slice A0 L0.length cap0]
  refine (few_any id0 cls L0 b0 cap0 A0 _ (hF.below hb0 (Nat.le_refl _)) hL hid hN).mono ?_
  rintro r w' ⟨A, b, cap, rfl, hb, hf, hbw⟩
  have := hH.lt
  exact ⟨A, b, cap, rfl, by omega, hf, hH.below hbw this, hb0.trans (hbw.mono hb0.size)⟩

set_option maxHeartbeats 4000000 in
set_option maxRecDepth 100000 in
theorem paperBytes_good (id0 : List UInt8) (cls : Int) (n0 cap0 : Nat) (A0 : Option Addr) (w : World) (id : List UInt8) (L : List Fld) (hlen : L.length ≤ 30) (hN : ∀ x ∈ L, x.name.length ≤ 300) (hok : ∀ x ∈ L, x.ok)
    (hid : id.length ≤ 300) (hk : Pap.check id cls L = 0) (hFew : FewAt w id0 cls A0 n0 cap0 id L) :
    Calls Try.prog 4 #[.agg #[.string (S id0), .int .i64 cls, .slice A0 n0 cap0]] w fun e w' => e = .returned (.bool true) ∧ Below w.heap.size w w' := by
  obtain ⟨hw24, hcls, hlen12, -, -⟩ := Pap.check_zero hk
  have hid24 := (Pap.word_len hw24).2
  have hgd := Pap.tidy_good hk hok
  have htl := Pap.tidy_len L
  have hB := fun W A b cap (hF : FSl W b A L) => pbytes_any id cls L b cap A W hF (by omega) (by omega) (fun x hx => by have := hN x hx; omega) hok
  rw [Pap.bytes_eq, if_pos hk] at hB
  dsimp only at hB
  have hC := fun W A b cap (hF : FSl W b A L) => lcheck_any id cls L b cap A W hF (by omega) (by omega) (fun x hx => by have := hN x hx; omega) hok
  rw [hk] at hC
  have hT := fun W A b cap (hF : FSl W b A L) => ltidy_any id cls L (by omega) b cap A W hF hok
  have hTE := Pap.tidy_eq L
  unfold TidyPost at hT
  rw [hTE] at hT
  have hR := Pap.readP_bytes hk hok
  have hE := enc_small (cls := cls) hid24 (by rw [htl]; exact hlen12.2) hgd
  have hPB := fun W A b cap (hF : FSl W b A (Pap.tidy L)) => lpbytes_any id cls (Pap.tidy L) (by omega) (by omega) hgd b cap A W hF
  have hS := fun W A b cap A' b' cap' (hF : FSl W b A (Pap.tidy L)) (hF' : FSl W b' A' (Pap.tidy L)) => lsame_any id cls (Pap.tidy L) id cls (Pap.tidy L) b b' cap cap' A A' W hF hF' (by omega) (by omega)
  rw [show Pap.same id cls (Pap.tidy L) id cls (Pap.tidy L) = true by simp [Pap.same]] at hS
  generalize Pap.tidy L = T at hgd htl hB hT hR hE hPB hS hTE
  generalize Pap.enc id cls T = en at hB hR hE hPB
  have hRD := fun W => pread_any en hE W
  rw [hR] at hRD
  unfold ReadPost at hRD
  dsimp only at hRD
  rw [htl] at hRD hPB hS
  have hA := fun W => awake_any W
  have hee : (en == en) = true := by simp
  have HB := Lib.hid hB; clear hB
  have HC := Lib.hid hC; clear hC
  have HT := Lib.hid hT; clear hT hTE
  have HPB := Lib.hid hPB; clear hPB
  have HS := Lib.hid hS; clear hS
  have HRD := Lib.hid hRD; clear hRD hR hE
  have HA := Lib.hid hA; clear hA hgd hok hN hk hw24 hcls hlen12 hid24
  unfold FewAt at hFew
  have HFEW := Lib.hid hFew; clear hFew hlen hid
  go_enter Try.func4, Try.ntmps4
  go_wp2_with fail
  refine (HFEW.out).mono ?_
  rintro r w1 ⟨A1, b1, cap1, rfl, hb1n, hF1, hH1, hb1⟩
  have c0 := hH1.cell 0; have c1 := hH1.cell 1; have c2 := hH1.cell 2
  have f0 := hH1.free 0; have f1 := hH1.free 1; have f2 := hH1.free 2
  have HW := Lib.hid (show PW w (((w1.setCell ⟨w.heap.size, 0, none⟩ (.string (S id))).setCell ⟨w.heap.size, 1, none⟩ (.int .i64 cls)).setCell ⟨w.heap.size, 2, none⟩ (.slice A1 L.length cap1)) id cls A1 L b1 cap1 from
    ⟨paper_set hH1 _ _ _, hF1.only (paper_only _ _ _ _ _) hb1n, (paper_only _ _ _ _ _).below hb1 hb1.size (Nat.le_refl _)⟩)
  clear hF1 hH1 hb1
  go_upto_region 3 with (fail)
  generalize (((w1.setCell ⟨w.heap.size, 0, none⟩ (.string (S id))).setCell ⟨w.heap.size, 1, none⟩ (.int .i64 cls)).setCell ⟨w.heap.size, 2, none⟩ (.slice A1 L.length cap1)) = W3 at HW ⊢
  clear c0 c1 c2 f0 f1 f2
  refine (HB.out _ _ _ _ HW.out.2.1).mono ?_
  rintro r w4 ⟨rfl, hb4⟩
  replace HW := Lib.hid (HW.out.below hb4); clear hb4
  obtain ⟨c0, c1, c2⟩ := HW.out.lies
  go_wp2_with fail
  refine (HC.out _ _ _ _ HW.out.2.1).mono ?_
  rintro r w5 ⟨rfl, hb5⟩
  replace HW := Lib.hid (HW.out.below hb5); clear hb5 c0 c1 c2
  obtain ⟨c0, c1, c2⟩ := HW.out.lies
  go_wp2_with fail
  refine (HRD.out _).mono ?_
  rintro r w6 ⟨A6, b6, cap6, rfl, hF6, hb6⟩
  replace HW := Lib.hid (HW.out.below hb6); clear hb6 c0 c1 c2
  go_upto_region 6 with (fail)
  have hQ := Has.made w6 24 #[.string (S id), .int .i64 cls, .slice A6 L.length cap6]
  have hu := up1 (w := w6) (.cells #[.string (S id), .int .i64 cls, .slice A6 L.length cap6] 24)
  replace HW := Lib.hid (show PW2 w (w6.alloc (.cells #[.string (S id), .int .i64 cls, .slice A6 L.length cap6] 24)).drew id cls A1 L b1 cap1 w6.heap.size A6 T b6 cap6 from ⟨(HW.out.below hu).drew, hQ, hF6.below hu.drew (Nat.le_refl _)⟩)
  clear hQ hu hF6
  have hx := HW.out.lies
  refine wp_region_held_drew (S := PLies2 w.heap.size w6.heap.size id cls A1 L.length cap1 A6 cap6) (by kernel_rfl) hx (fun hHeld => ?_)
  first
  | (refine take_wanted (i := 0) (v := ?_) rfl rfl (by kernel_rfl) (by kernel_rfl) (by kernel_rfl) (fun _ _ _ h => h) (by rfl) (by assumption) ?_ ?_; rotate_left; (focus (intro w hSw; (try dsimp only at hSw); go_simp; first | done | with_reducible rfl)); (simp only [Act.at, List.setIfInBounds_toArray, List.set_cons_zero, List.set_cons_succ]))
  | (refine take_unwanted (i := 0) rfl rfl (by kernel_rfl) (by kernel_rfl) (by kernel_rfl) (fun _ _ _ h => h) (by rfl) (by assumption) ?_; (simp only [Act.at, List.setIfInBounds_toArray, List.set_cons_zero, List.set_cons_succ]))
  first
  | (refine take_wanted (i := 1) (v := ?_) rfl rfl (by kernel_rfl) (by kernel_rfl) (by kernel_rfl) (fun _ _ _ h => h) (by rfl) (by assumption) ?_ ?_; rotate_left; (focus (intro w hSw; (try dsimp only at hSw); go_simp; first | done | with_reducible rfl)); (simp only [Act.at, List.setIfInBounds_toArray, List.set_cons_zero, List.set_cons_succ]))
  | (refine take_unwanted (i := 1) rfl rfl (by kernel_rfl) (by kernel_rfl) (by kernel_rfl) (fun _ _ _ h => h) (by rfl) (by assumption) ?_; (simp only [Act.at, List.setIfInBounds_toArray, List.set_cons_zero, List.set_cons_succ]))
  first
  | (refine take_wanted (i := 2) (v := ?_) rfl rfl (by kernel_rfl) (by kernel_rfl) (by kernel_rfl) (fun _ _ _ h => h) (by rfl) (by assumption) ?_ ?_; rotate_left; (focus (intro w hSw; (try dsimp only at hSw); go_simp; first | done | with_reducible rfl)); (simp only [Act.at, List.setIfInBounds_toArray, List.set_cons_zero, List.set_cons_succ]))
  | (refine take_unwanted (i := 2) rfl rfl (by kernel_rfl) (by kernel_rfl) (by kernel_rfl) (fun _ _ _ h => h) (by rfl) (by assumption) ?_; (simp only [Act.at, List.setIfInBounds_toArray, List.set_cons_zero, List.set_cons_succ]))
  first
  | (refine take_wanted (i := 3) (v := ?_) rfl rfl (by kernel_rfl) (by kernel_rfl) (by kernel_rfl) (fun _ _ _ h => h) (by rfl) (by assumption) ?_ ?_; rotate_left; (focus (intro w hSw; (try dsimp only at hSw); go_simp; first | done | with_reducible rfl)); (simp only [Act.at, List.setIfInBounds_toArray, List.set_cons_zero, List.set_cons_succ]))
  | (refine take_unwanted (i := 3) rfl rfl (by kernel_rfl) (by kernel_rfl) (by kernel_rfl) (fun _ _ _ h => h) (by rfl) (by assumption) ?_; (simp only [Act.at, List.setIfInBounds_toArray, List.set_cons_zero, List.set_cons_succ]))
  first
  | (refine take_wanted (i := 4) (v := ?_) rfl rfl (by kernel_rfl) (by kernel_rfl) (by kernel_rfl) (fun _ _ _ h => h) (by rfl) (by assumption) ?_ ?_; rotate_left; (focus (intro w hSw; (try dsimp only at hSw); go_simp; first | done | with_reducible rfl)); (simp only [Act.at, List.setIfInBounds_toArray, List.set_cons_zero, List.set_cons_succ]))
  | (refine take_unwanted (i := 4) rfl rfl (by kernel_rfl) (by kernel_rfl) (by kernel_rfl) (fun _ _ _ h => h) (by rfl) (by assumption) ?_; (simp only [Act.at, List.setIfInBounds_toArray, List.set_cons_zero, List.set_cons_succ]))
  refine take_call (i := 5) (by kernel_rfl) rfl rfl (by rfl) (fun K hK => ?_)
  go_simp
  refine (HT.out _ _ _ _ HW.out.1.2.1).mono ?_
  rintro r w7 ⟨A7, b7, cap7, rfl, -, hF7, hb7⟩
  clear hx
  replace HW := Lib.hid (HW.out.below hb7); clear hb7
  have hx := HW.out.lies
  refine hK.out _ _ hx (fun hHeld => ?_)
  clear hK K
  try simp only [Act.put, List.setIfInBounds_toArray, List.set_cons_zero, List.set_cons_succ]
  refine take_call (i := 6) (by kernel_rfl) rfl rfl (by rfl) (fun K hK => ?_)
  go_simp
  refine (HPB.out _ _ _ _ hF7).mono ?_
  rintro r w8 ⟨rfl, hb8⟩
  clear hx hF7
  replace HW := Lib.hid (HW.out.below hb8); clear hb8
  have hx := HW.out.lies
  refine hK.out _ _ hx (fun hHeld => ?_)
  clear hK K
  try simp only [Act.put, List.setIfInBounds_toArray, List.set_cons_zero, List.set_cons_succ]
  first
  | (refine take_wanted (i := 7) (v := ?_) rfl rfl (by kernel_rfl) (by kernel_rfl) (by kernel_rfl) (fun _ _ _ h => h) (by rfl) (by assumption) ?_ ?_; rotate_left; (focus (intro w hSw; (try dsimp only at hSw); go_simp; first | done | with_reducible rfl)); (simp only [Act.at, List.setIfInBounds_toArray, List.set_cons_zero, List.set_cons_succ]))
  | (refine take_unwanted (i := 7) rfl rfl (by kernel_rfl) (by kernel_rfl) (by kernel_rfl) (fun _ _ _ h => h) (by rfl) (by assumption) ?_; (simp only [Act.at, List.setIfInBounds_toArray, List.set_cons_zero, List.set_cons_succ]))
  first
  | (refine take_wanted (i := 8) (v := ?_) rfl rfl (by kernel_rfl) (by kernel_rfl) (by kernel_rfl) (fun _ _ _ h => h) (by rfl) (by assumption) ?_ ?_; rotate_left; (focus (intro w hSw; (try dsimp only at hSw); go_simp; first | done | with_reducible rfl)); (simp only [Act.at, List.setIfInBounds_toArray, List.set_cons_zero, List.set_cons_succ]))
  | (refine take_unwanted (i := 8) rfl rfl (by kernel_rfl) (by kernel_rfl) (by kernel_rfl) (fun _ _ _ h => h) (by rfl) (by assumption) ?_; (simp only [Act.at, List.setIfInBounds_toArray, List.set_cons_zero, List.set_cons_succ]))
  first
  | (refine take_wanted (i := 9) (v := ?_) rfl rfl (by kernel_rfl) (by kernel_rfl) (by kernel_rfl) (fun _ _ _ h => h) (by rfl) (by assumption) ?_ ?_; rotate_left; (focus (intro w hSw; (try dsimp only at hSw); go_simp; first | done | with_reducible rfl)); (simp only [Act.at, List.setIfInBounds_toArray, List.set_cons_zero, List.set_cons_succ]))
  | (refine take_unwanted (i := 9) rfl rfl (by kernel_rfl) (by kernel_rfl) (by kernel_rfl) (fun _ _ _ h => h) (by rfl) (by assumption) ?_; (simp only [Act.at, List.setIfInBounds_toArray, List.set_cons_zero, List.set_cons_succ]))
  first
  | (refine take_wanted (i := 10) (v := ?_) rfl rfl (by kernel_rfl) (by kernel_rfl) (by kernel_rfl) (fun _ _ _ h => h) (by rfl) (by assumption) ?_ ?_; rotate_left; (focus (intro w hSw; (try dsimp only at hSw); go_simp; first | done | with_reducible rfl)); (simp only [Act.at, List.setIfInBounds_toArray, List.set_cons_zero, List.set_cons_succ]))
  | (refine take_unwanted (i := 10) rfl rfl (by kernel_rfl) (by kernel_rfl) (by kernel_rfl) (fun _ _ _ h => h) (by rfl) (by assumption) ?_; (simp only [Act.at, List.setIfInBounds_toArray, List.set_cons_zero, List.set_cons_succ]))
  first
  | (refine take_wanted (i := 11) (v := ?_) rfl rfl (by kernel_rfl) (by kernel_rfl) (by kernel_rfl) (fun _ _ _ h => h) (by rfl) (by assumption) ?_ ?_; rotate_left; (focus (intro w hSw; (try dsimp only at hSw); go_simp; first | done | with_reducible rfl)); (simp only [Act.at, List.setIfInBounds_toArray, List.set_cons_zero, List.set_cons_succ]))
  | (refine take_unwanted (i := 11) rfl rfl (by kernel_rfl) (by kernel_rfl) (by kernel_rfl) (fun _ _ _ h => h) (by rfl) (by assumption) ?_; (simp only [Act.at, List.setIfInBounds_toArray, List.set_cons_zero, List.set_cons_succ]))
  first
  | (refine take_wanted (i := 12) (v := ?_) rfl rfl (by kernel_rfl) (by kernel_rfl) (by kernel_rfl) (fun _ _ _ h => h) (by rfl) (by assumption) ?_ ?_; rotate_left; (focus (intro w hSw; (try dsimp only at hSw); go_simp; first | done | with_reducible rfl)); (simp only [Act.at, List.setIfInBounds_toArray, List.set_cons_zero, List.set_cons_succ]))
  | (refine take_unwanted (i := 12) rfl rfl (by kernel_rfl) (by kernel_rfl) (by kernel_rfl) (fun _ _ _ h => h) (by rfl) (by assumption) ?_; (simp only [Act.at, List.setIfInBounds_toArray, List.set_cons_zero, List.set_cons_succ]))
  first
  | (refine take_wanted (i := 13) (v := ?_) rfl rfl (by kernel_rfl) (by kernel_rfl) (by kernel_rfl) (fun _ _ _ h => h) (by rfl) (by assumption) ?_ ?_; rotate_left; (focus (intro w hSw; (try dsimp only at hSw); go_simp; first | done | with_reducible rfl)); (simp only [Act.at, List.setIfInBounds_toArray, List.set_cons_zero, List.set_cons_succ]))
  | (refine take_unwanted (i := 13) rfl rfl (by kernel_rfl) (by kernel_rfl) (by kernel_rfl) (fun _ _ _ h => h) (by rfl) (by assumption) ?_; (simp only [Act.at, List.setIfInBounds_toArray, List.set_cons_zero, List.set_cons_succ]))
  first
  | (refine take_wanted (i := 14) (v := ?_) rfl rfl (by kernel_rfl) (by kernel_rfl) (by kernel_rfl) (fun _ _ _ h => h) (by rfl) (by assumption) ?_ ?_; rotate_left; (focus (intro w hSw; (try dsimp only at hSw); go_simp; first | done | with_reducible rfl)); (simp only [Act.at, List.setIfInBounds_toArray, List.set_cons_zero, List.set_cons_succ]))
  | (refine take_unwanted (i := 14) rfl rfl (by kernel_rfl) (by kernel_rfl) (by kernel_rfl) (fun _ _ _ h => h) (by rfl) (by assumption) ?_; (simp only [Act.at, List.setIfInBounds_toArray, List.set_cons_zero, List.set_cons_succ]))
  first
  | (refine take_wanted (i := 15) (v := ?_) rfl rfl (by kernel_rfl) (by kernel_rfl) (by kernel_rfl) (fun _ _ _ h => h) (by rfl) (by assumption) ?_ ?_; rotate_left; (focus (intro w hSw; (try dsimp only at hSw); go_simp; first | done | with_reducible rfl)); (simp only [Act.at, List.setIfInBounds_toArray, List.set_cons_zero, List.set_cons_succ]))
  | (refine take_unwanted (i := 15) rfl rfl (by kernel_rfl) (by kernel_rfl) (by kernel_rfl) (fun _ _ _ h => h) (by rfl) (by assumption) ?_; (simp only [Act.at, List.setIfInBounds_toArray, List.set_cons_zero, List.set_cons_succ]))
  refine take_call (i := 16) (by kernel_rfl) rfl rfl (by rfl) (fun K hK => ?_)
  go_simp
  refine (HT.out _ _ _ _ HW.out.1.2.1).mono ?_
  rintro r w9 ⟨A9, b9, cap9, rfl, -, hF9, hb9⟩
  clear hx
  replace HW := Lib.hid (HW.out.below hb9); clear hb9
  have hx := HW.out.lies
  refine hK.out _ _ hx (fun hHeld => ?_)
  clear hK K
  try simp only [Act.put, List.setIfInBounds_toArray, List.set_cons_zero, List.set_cons_succ]
  refine take_call (i := 17) (by kernel_rfl) rfl rfl (by rfl) (fun K hK => ?_)
  go_simp
  refine (HS.out _ _ _ _ _ _ _ HW.out.2.2 hF9).mono ?_
  rintro r w10 ⟨rfl, hb10⟩
  clear hx hF9
  replace HW := Lib.hid (HW.out.below hb10); clear hb10
  have hx := HW.out.lies
  refine hK.out _ _ hx (fun hHeld => ?_)
  clear hK K
  try simp only [Act.put, List.setIfInBounds_toArray, List.set_cons_zero, List.set_cons_succ]
  first
  | (refine take_wanted (i := 18) (v := ?_) rfl rfl (by kernel_rfl) (by kernel_rfl) (by kernel_rfl) (fun _ _ _ h => h) (by rfl) (by assumption) ?_ ?_; rotate_left; (focus (intro w hSw; (try dsimp only at hSw); go_simp; first | done | with_reducible rfl)); (simp only [Act.at, List.setIfInBounds_toArray, List.set_cons_zero, List.set_cons_succ]))
  | (refine take_unwanted (i := 18) rfl rfl (by kernel_rfl) (by kernel_rfl) (by kernel_rfl) (fun _ _ _ h => h) (by rfl) (by assumption) ?_; (simp only [Act.at, List.setIfInBounds_toArray, List.set_cons_zero, List.set_cons_succ]))
  first
  | (refine take_wanted (i := 19) (v := ?_) rfl rfl (by kernel_rfl) (by kernel_rfl) (by kernel_rfl) (fun _ _ _ h => h) (by rfl) (by assumption) ?_ ?_; rotate_left; (focus (intro w hSw; (try dsimp only at hSw); go_simp; first | done | with_reducible rfl)); (simp only [Act.at, List.setIfInBounds_toArray, List.set_cons_zero, List.set_cons_succ]))
  | (refine take_unwanted (i := 19) rfl rfl (by kernel_rfl) (by kernel_rfl) (by kernel_rfl) (fun _ _ _ h => h) (by rfl) (by assumption) ?_; (simp only [Act.at, List.setIfInBounds_toArray, List.set_cons_zero, List.set_cons_succ]))
  refine take_call (i := 20) (by kernel_rfl) rfl rfl (by rfl) (fun K hK => ?_)
  go_simp
  refine (HA.out _).mono ?_
  rintro r w11 ⟨rfl, hb11⟩
  clear hx
  replace HW := Lib.hid (HW.out.below hb11); clear hb11
  have hx := HW.out.lies
  refine hK.out _ _ hx (fun hHeld => ?_)
  clear hK K
  try simp only [Act.put, List.setIfInBounds_toArray, List.set_cons_zero, List.set_cons_succ]
  first
  | (refine take_wanted (i := 21) (v := ?_) rfl rfl (by kernel_rfl) (by kernel_rfl) (by kernel_rfl) (fun _ _ _ h => h) (by rfl) (by assumption) ?_ ?_; rotate_left; (focus (intro w hSw; (try dsimp only at hSw); go_simp; first | done | with_reducible rfl)); (simp only [Act.at, List.setIfInBounds_toArray, List.set_cons_zero, List.set_cons_succ]))
  | (refine take_unwanted (i := 21) rfl rfl (by kernel_rfl) (by kernel_rfl) (by kernel_rfl) (fun _ _ _ h => h) (by rfl) (by assumption) ?_; (simp only [Act.at, List.setIfInBounds_toArray, List.set_cons_zero, List.set_cons_succ]))
  first
  | (refine take_wanted (i := 22) (v := ?_) rfl rfl (by kernel_rfl) (by kernel_rfl) (by kernel_rfl) (fun _ _ _ h => h) (by rfl) (by assumption) ?_ ?_; rotate_left; (focus (intro w hSw; (try dsimp only at hSw); go_simp; first | done | with_reducible rfl)); (simp only [Act.at, List.setIfInBounds_toArray, List.set_cons_zero, List.set_cons_succ]))
  | (refine take_unwanted (i := 22) rfl rfl (by kernel_rfl) (by kernel_rfl) (by kernel_rfl) (fun _ _ _ h => h) (by rfl) (by assumption) ?_; (simp only [Act.at, List.setIfInBounds_toArray, List.set_cons_zero, List.set_cons_succ]))
  refine wpAnyH_done (by kernel_rfl) ?_ _
  go_wp2_with fail
  go_ret
  exact ⟨rfl, HW.out.1.2.2⟩

set_option maxHeartbeats 4000000 in
set_option maxRecDepth 100000 in
theorem paperBytes_bad (id0 : List UInt8) (cls : Int) (n0 cap0 : Nat) (A0 : Option Addr) (w : World) (id : List UInt8) (L : List Fld) (hlen : L.length ≤ 30) (hN : ∀ x ∈ L, x.name.length ≤ 300) (hok : ∀ x ∈ L, x.ok)
    (hid : id.length ≤ 300) (hk : Pap.check id cls L ≠ 0) (hFew : FewAt w id0 cls A0 n0 cap0 id L) :
    Calls Try.prog 4 #[.agg #[.string (S id0), .int .i64 cls, .slice A0 n0 cap0]] w fun e w' => e = .returned (.bool true) ∧ Below w.heap.size w w' := by
  have hB := fun W A b cap (hF : FSl W b A L) => pbytes_any id cls L b cap A W hF (by omega) (by omega) (fun x hx => by have := hN x hx; omega) hok
  rw [Pap.bytes_eq, if_neg hk] at hB
  dsimp only at hB
  have hC := fun W A b cap (hF : FSl W b A L) => lcheck_any id cls L b cap A W hF (by omega) (by omega) (fun x hx => by have := hN x hx; omega) hok
  have hke : (Pap.check id cls L != 0) = true := by simpa using hk
  have hke2 : (Pap.check id cls L == Pap.check id cls L) = true := by simp
  generalize Pap.check id cls L = e at hB hC hke hke2
  have hA := fun W => awake_any W
  have HB := Lib.hid hB; clear hB
  have HC := Lib.hid hC; clear hC
  have HA := Lib.hid hA; clear hA hok hN hk
  unfold FewAt at hFew
  have HFEW := Lib.hid hFew; clear hFew hlen hid
  go_enter Try.func4, Try.ntmps4
  go_wp2_with fail
  refine (HFEW.out).mono ?_
  rintro r w1 ⟨A1, b1, cap1, rfl, hb1n, hF1, hH1, hb1⟩
  have c0 := hH1.cell 0; have c1 := hH1.cell 1; have c2 := hH1.cell 2
  have f0 := hH1.free 0; have f1 := hH1.free 1; have f2 := hH1.free 2
  have HW := Lib.hid (show PW w (((w1.setCell ⟨w.heap.size, 0, none⟩ (.string (S id))).setCell ⟨w.heap.size, 1, none⟩ (.int .i64 cls)).setCell ⟨w.heap.size, 2, none⟩ (.slice A1 L.length cap1)) id cls A1 L b1 cap1 from
    ⟨paper_set hH1 _ _ _, hF1.only (paper_only _ _ _ _ _) hb1n, (paper_only _ _ _ _ _).below hb1 hb1.size (Nat.le_refl _)⟩)
  clear hF1 hH1 hb1
  go_upto_region 3 with (fail)
  generalize (((w1.setCell ⟨w.heap.size, 0, none⟩ (.string (S id))).setCell ⟨w.heap.size, 1, none⟩ (.int .i64 cls)).setCell ⟨w.heap.size, 2, none⟩ (.slice A1 L.length cap1)) = W3 at HW ⊢
  clear c0 c1 c2 f0 f1 f2
  refine (HB.out _ _ _ _ HW.out.2.1).mono ?_
  rintro r w4 ⟨rfl, hb4⟩
  replace HW := Lib.hid (HW.out.below hb4); clear hb4
  obtain ⟨c0, c1, c2⟩ := HW.out.lies
  go_wp2_with fail
  refine (HC.out _ _ _ _ HW.out.2.1).mono ?_
  rintro r w5 ⟨rfl, hb5⟩
  replace HW := Lib.hid (HW.out.below hb5); clear hb5 c0 c1 c2
  obtain ⟨c0, c1, c2⟩ := HW.out.lies
  go_wp2_with fail
  refine (HC.out _ _ _ _ HW.out.2.1).mono ?_
  rintro r w6 ⟨rfl, hb6⟩
  replace HW := Lib.hid (HW.out.below hb6); clear hb6 c0 c1 c2
  go_wp2_with fail
  refine (HA.out _).mono ?_
  rintro r w7 ⟨rfl, hb7⟩
  replace HW := Lib.hid (HW.out.below hb7); clear hb7
  go_wp2_with fail
  go_ret
  exact ⟨rfl, HW.out.2.2⟩

theorem paperBytes_any (id0 : List UInt8) (cls : Int) (L0 : List Fld) (b0 cap0 : Nat) (A0 : Option Addr) (w : World) (hF : FSl w b0 A0 L0) (hL : L0.length ≤ 4611686018427387904) (hid : id0.length ≤ 4611686018427387904)
    (hN : ∀ x ∈ L0, x.ok ∧ x.name.length ≤ 1000000000000000 ∧ x.val.text.length ≤ 1000000000000000) :
    Calls Try.prog 4 #[.agg #[.string (S id0), .int .i64 cls, .slice A0 L0.length cap0]] w fun e w' => e = .returned (.bool true) ∧ Below w.heap.size w w' := by
  have hFew := few_at id0 cls L0 b0 cap0 A0 w hF hL hid (fun x hx => ⟨by have := (hN x hx).2.1; omega, by have := (hN x hx).2.2; omega⟩)
  have h1 := Pap.few_len L0
  have h2 := Pap.few_name L0
  have h3 := Pap.few_ok L0 (fun x hx => (hN x hx).1)
  have h4 : (id0.take 300).length ≤ 300 := by rw [List.length_take]; omega
  by_cases hk : Pap.check (id0.take 300) cls (Pap.few L0) = 0
  · exact paperBytes_good id0 cls _ cap0 A0 w _ _ h1 h2 h3 h4 hk hFew
  · exact paperBytes_bad id0 cls _ cap0 A0 w _ _ h1 h2 h3 h4 hk hFew

set_option maxRecDepth 100000 in
theorem paperBytes_contract {H : Type} (enc : TypeId × Value → H) (W : World) (base : Nat) (args : Array Value) (ds gs : List (DataW H)) (before : List MemPlace)
    (hval : ∀ (j : Nat) t v, Try.f4.params[j]? = some t → args[j]? = some v → Value.okWide Try.prog W .any base t v)
    (hW : DataW.Whole enc Try.prog Try.f4.params.toList Rows.paperBytesSpec.vars false W args.toList ds gs before)
    (hsz : (DataW.weightsEach Try.prog (Try.f4.params.toList ++ Rows.paperBytesSpec.plain.varTypes Try.prog) (ds ++ gs)).all (· ≤ reachBytes) = true) :
    Calls Try.prog 4 args W fun e W' =>
      ((Rows.paperBytesSpec.fn H (ds ++ gs)).results = [.lit (.bool true)] ∧ (Rows.paperBytesSpec.fn H (ds ++ gs)).args = ds ∧ (Rows.paperBytesSpec.fn H (ds ++ gs)).vars = []) ∧ e = .returned (.bool true) ∧ Below W.heap.size W W' := by
  obtain ⟨p, q, hA0, hV, rfl, hfz, hnd⟩ := hW
  have hA : DataW.TrodAll enc Try.prog W 0 (fun _ => true) true Try.f4.params.toList args.toList ds p := hA0
  rw [Try.params4] at hA hval hsz
  obtain ⟨v0, d0, rfl, rfl, h0⟩ := trodAll_one hA
  obtain ⟨rfl, rfl⟩ := trodVars_none hV
  obtain ⟨id_p, cls_p, A_p, L_p, b_p, cap_p, rfl, hF_p, ok_p, lc_p, cm_p, il_p, kl_p, kh_p⟩ := paper_open (hval 0 24 v0 rfl rfl) h0 (fun n hn => by
    have h := List.all_eq_true.1 hsz n (DataW.weights_mem_each (j := 0) (t := 24) (d := d0) rfl rfl n hn)
    exact Nat.le_trans (by simpa using h) reach_le)
  exact (paperBytes_any id_p cls_p L_p b_p cap_p A_p W hF_p (Nat.le_trans cm_p (by decide)) (Nat.le_trans il_p (by decide)) ok_p).mono fun e W' h => ⟨⟨rfl, rfl, rfl⟩, h⟩

end Go.Proofs.Ytfppobnfajkmmaa
