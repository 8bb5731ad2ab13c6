/-
  The reference's Bytes of the fourteenth layer, but for papers.
-/
import Derived.Test.YtihhgingdgepcaaEvRefD
namespace Go.Proofs.Ytihhgingdgepcaa
open Go.RowKit
set_option linter.unusedVariables false

/-- What Bytes reads. -/
abbrev EvtS (b0 : Nat) (kind seq idx size now : Int) (name root : List UInt8) (W : World) : Prop :=
  W.cell? ⟨b0, 0, none⟩ = some (.int .i64 kind) ∧ W.cell? ⟨b0, 8, none⟩ = some (.int .i64 seq) ∧ W.cell? ⟨b0, 9, none⟩ = some (.int .i64 idx) ∧ W.cell? ⟨b0, 10, none⟩ = some (.string (S name)) ∧ W.cell? ⟨b0, 11, none⟩ = some (.int .i64 size) ∧ W.cell? ⟨b0, 12, none⟩ = some (.string (S root)) ∧ W.cell? ⟨b0, 13, none⟩ = some (.int .i64 now)
/-- An event's own block, and what stays below. -/
theorem evtHeld {w : World} {K C Bo Sl Sq Ix Sz Nw : Int} {I Nm Rt : List UInt8} {A B : Option Addr} {n ca m cb : Nat} {G : Bool} :
    let cs : Array Value := #[.int .i64 K, .string (S I), .int .i64 C, .int .i64 Bo, .int .i64 Sl, .slice A n ca, .bool G, .slice B m cb, .int .i64 Sq, .int .i64 Ix, .string (S Nm), .int .i64 Sz, .string (S Rt), .int .i64 Nw]
    ∀ W1, Below (w.alloc (.cells cs 29)).heap.size (w.alloc (.cells cs 29)) W1 → EvtS w.heap.size K Sq Ix Sz Nw Nm Rt W1 ∧ Below w.heap.size w W1 := by
  intro cs W1 hb
  have hh := Has.made w 29 cs
  have hlt : w.heap.size < (w.alloc (.cells cs 29)).heap.size := by rw [asize]; omega
  have h1 := hh.below hb hlt
  exact ⟨⟨h1.cell 0, h1.cell 8, h1.cell 9, h1.cell 10, h1.cell 11, h1.cell 12, h1.cell 13⟩, ((Below.refl _ w).alloc (Nat.le_refl _) _).trans (hb.mono (Nat.le_of_lt hlt))⟩
/-- A number that may be written, a text that is not endless. -/
def NumH (n : Int) : Prop := 0 ≤ n ∧ n < 72057594037927936
theorem numH_of {n : Int} (h0 : 0 ≤ n) (h1 : n < 72057594037927936) : NumH n := ⟨h0, h1⟩
def TxtH (l : List UInt8) : Prop := l.length ≤ 1000000
theorem txtH_of {l : List UInt8} (h : l.length ≤ 1000000) : TxtH l := h
theorem enumH (n : Int) (w : World) (h : NumH n) :
    Calls Try.prog 30 #[.int .i64 n] w fun e w' => e = .returned (.string (S (M.encL n))) ∧ Below w.heap.size w w' := enum_any n w h.1 h.2
theorem etextH (l : List UInt8) (w : World) (h : TxtH l) :
    Calls Try.prog 31 #[.string (S l)] w fun e w' => e = .returned (.string (S (Ev.txt l))) ∧ Below w.heap.size w w' := etext_any l w h
set_option maxRecDepth 100000 in
set_option maxHeartbeats 16000000 in
theorem ebytes2_any {w : World} {v : Evt} {A B : Option Addr} {ca cb : Nat} (hv : Ev.right v = true) (hk : v.kind = 2) :
    Calls Try.prog 12 #[v.val A ca B cb] w fun r w' => r = .returned (.string (S (Ev.enc v))) ∧ Below w.heap.size w w' := by
  rw [Ev.right2 hk, Bool.and_eq_true, Ev.rng_iff, Ev.rng_iff] at hv
  rw [Ev.enc2 hk]
  unfold Evt.val
  obtain ⟨kind, ⟨id, cls, born, slot, L, gone, H⟩, seq, idx, name, size, root, now⟩ := v
  dsimp only at *
  subst hk
  have HY := Lib.hid (evtHeld (w := w) (K := 2) (I := id) (C := cls) (Bo := born) (Sl := slot) (A := A) (n := L.length) (ca := ca) (G := gone) (B := B) (m := H.length) (cb := cb) (Sq := seq) (Ix := idx) (Nm := name) (Sz := size) (Rt := root) (Nw := now))
  dsimp only at HY
  have HN := Lib.hid (fun n W h => enumH n W h)
  have g0 := numH_of (n := 2) (by omega) (by omega)
  have l0 := Ev.encL_len (n := 2) (by omega)
  have g1 := numH_of (n := seq) (by omega) (by omega)
  have l1 := Ev.encL_len (n := seq) (by omega)
  have g2 := numH_of (n := idx) (by omega) (by omega)
  have l2 := Ev.encL_len (n := idx) (by omega)
  clear hv
  generalize M.encL = F at *
  have m1 : ¬ 9223372036854775807 < (F 2).length + (F seq).length := by omega
  have m2 : ¬ 9223372036854775807 < (F 2).length + (F seq).length + (F idx).length := by omega
  clear l0 l1 l2
  go_enter Try.func12, Try.ntmps12
  go_upto_region 1 with fail
  generalize w.alloc (.cells #[.int .i64 2, .string (S id), .int .i64 cls, .int .i64 born, .int .i64 slot, .slice A L.length ca, .bool gone, .slice B H.length cb, .int .i64 seq, .int .i64 idx, .string (S name), .int .i64 size, .string (S root), .int .i64 now] 29) = W0 at HY ⊢
  generalize hb0 : w.heap.size = b0 at HY ⊢
  have HBK := Lib.hid (Below.refl W0.heap.size W0)
  have hy := (HY.out _ HBK.out).1
  obtain ⟨y0, y8, y9, y10, y11, y12, y13⟩ := hy
  go_wp2_with fail
  refine (HN.out _ _ g0).mono ?_
  rintro r w1 ⟨rfl, hb1⟩
  replace HBK := Lib.hid (HBK.out.trans (hb1.mono HBK.out.size))
  clear y0 y8 y9 y10 y11 y12 y13 hb1
  have hy := (HY.out _ HBK.out).1
  obtain ⟨y0, y8, y9, y10, y11, y12, y13⟩ := hy
  go_upto_region 3 with fail
  replace HBK := Lib.hid HBK.out.drew
  have hy := (HY.out _ HBK.out).1
  clear y0 y8 y9 y10 y11 y12 y13
  go_region_held3 (EvtS b0 2 seq idx size now name root) (first | exact hy | go_keep) (first
    | (go_at_call 30; refine (HN.out _ _ (by assumption)).mono ?_; rintro r w2 ⟨rfl, hb1⟩; replace HBK := Lib.hid (HBK.out.trans (hb1.mono HBK.out.size)); clear hy hb1; have hy := (HY.out _ HBK.out).1))
  all_goals
    have HF := Lib.hid (HY.out _ HBK.out).2
    clear hy m1 m2
    go_wp2_with fail
    go_ret
    exact ⟨rfl, by rw [hb0]; exact HF.out⟩
set_option maxRecDepth 100000 in
set_option maxHeartbeats 16000000 in
theorem ebytes3_any {w : World} {v : Evt} {A B : Option Addr} {ca cb : Nat} (hv : Ev.right v = true) (hk : v.kind = 3) :
    Calls Try.prog 12 #[v.val A ca B cb] w fun r w' => r = .returned (.string (S (Ev.enc v))) ∧ Below w.heap.size w w' := by
  rw [Ev.right3 hk, Ev.rng_iff] at hv
  rw [Ev.enc3 hk]
  unfold Evt.val
  obtain ⟨kind, ⟨id, cls, born, slot, L, gone, H⟩, seq, idx, name, size, root, now⟩ := v
  dsimp only at *
  subst hk
  have HY := Lib.hid (evtHeld (w := w) (K := 3) (I := id) (C := cls) (Bo := born) (Sl := slot) (A := A) (n := L.length) (ca := ca) (G := gone) (B := B) (m := H.length) (cb := cb) (Sq := seq) (Ix := idx) (Nm := name) (Sz := size) (Rt := root) (Nw := now))
  dsimp only at HY
  have HN := Lib.hid (fun n W h => enumH n W h)
  have g0 := numH_of (n := 3) (by omega) (by omega)
  have l0 := Ev.encL_len (n := 3) (by omega)
  have g1 := numH_of (n := seq) (by omega) (by omega)
  have l1 := Ev.encL_len (n := seq) (by omega)
  clear hv
  generalize M.encL = F at *
  have m1 : ¬ 9223372036854775807 < (F 3).length + (F seq).length := by omega
  clear l0 l1
  go_enter Try.func12, Try.ntmps12
  go_upto_region 1 with fail
  generalize w.alloc (.cells #[.int .i64 3, .string (S id), .int .i64 cls, .int .i64 born, .int .i64 slot, .slice A L.length ca, .bool gone, .slice B H.length cb, .int .i64 seq, .int .i64 idx, .string (S name), .int .i64 size, .string (S root), .int .i64 now] 29) = W0 at HY ⊢
  generalize hb0 : w.heap.size = b0 at HY ⊢
  have HBK := Lib.hid (Below.refl W0.heap.size W0)
  have hy := (HY.out _ HBK.out).1
  obtain ⟨y0, y8, y9, y10, y11, y12, y13⟩ := hy
  go_wp2_with fail
  refine (HN.out _ _ g0).mono ?_
  rintro r w1 ⟨rfl, hb1⟩
  replace HBK := Lib.hid (HBK.out.trans (hb1.mono HBK.out.size))
  clear y0 y8 y9 y10 y11 y12 y13 hb1
  have hy := (HY.out _ HBK.out).1
  obtain ⟨y0, y8, y9, y10, y11, y12, y13⟩ := hy
  go_wp2_with fail
  refine (HN.out _ _ g1).mono ?_
  rintro r w2 ⟨rfl, hb1⟩
  replace HBK := Lib.hid (HBK.out.trans (hb1.mono HBK.out.size))
  have HF := Lib.hid (HY.out _ HBK.out).2
  go_wp2_with fail
  go_ret
  exact ⟨rfl, by rw [hb0]; exact HF.out⟩
set_option maxRecDepth 100000 in
set_option maxHeartbeats 16000000 in
theorem ebytes4_any {w : World} {v : Evt} {A B : Option Addr} {ca cb : Nat} (hv : Ev.right v = true) (hk : v.kind = 4) :
    Calls Try.prog 12 #[v.val A ca B cb] w fun r w' => r = .returned (.string (S (Ev.enc v))) ∧ Below w.heap.size w w' := by
  rw [Ev.right4 (Or.inl hk), Bool.and_eq_true, Ev.rng_iff] at hv
  rw [Ev.enc4 (Or.inl hk)]
  unfold Evt.val
  obtain ⟨kind, ⟨id, cls, born, slot, L, gone, H⟩, seq, idx, name, size, root, now⟩ := v
  dsimp only at *
  subst hk
  have HY := Lib.hid (evtHeld (w := w) (K := 4) (I := id) (C := cls) (Bo := born) (Sl := slot) (A := A) (n := L.length) (ca := ca) (G := gone) (B := B) (m := H.length) (cb := cb) (Sq := seq) (Ix := idx) (Nm := name) (Sz := size) (Rt := root) (Nw := now))
  dsimp only at HY
  have HN := Lib.hid (fun n W h => enumH n W h)
  have HX := Lib.hid (fun l W h => etextH l W h)
  have g0 := numH_of (n := 4) (by omega) (by omega)
  have l0 := Ev.encL_len (n := 4) (by omega)
  have g1 := numH_of (n := seq) (by omega) (by omega)
  have l1 := Ev.encL_len (n := seq) (by omega)
  have wl := (Pap.word_len hv.2).2
  have t1 := txtH_of (l := name) (by omega)
  have s1 := Ev.txt_len (s := name) (by omega)
  clear hv
  generalize M.encL = F at *
  generalize Ev.txt = T at *
  have m1 : ¬ 9223372036854775807 < (F 4).length + (F seq).length := by omega
  have m2 : ¬ 9223372036854775807 < (F 4).length + (F seq).length + (T name).length := by omega
  clear l0 l1 s1 wl
  go_enter Try.func12, Try.ntmps12
  go_upto_region 1 with fail
  generalize w.alloc (.cells #[.int .i64 4, .string (S id), .int .i64 cls, .int .i64 born, .int .i64 slot, .slice A L.length ca, .bool gone, .slice B H.length cb, .int .i64 seq, .int .i64 idx, .string (S name), .int .i64 size, .string (S root), .int .i64 now] 29) = W0 at HY ⊢
  generalize hb0 : w.heap.size = b0 at HY ⊢
  have HBK := Lib.hid (Below.refl W0.heap.size W0)
  have hy := (HY.out _ HBK.out).1
  obtain ⟨y0, y8, y9, y10, y11, y12, y13⟩ := hy
  go_wp2_with fail
  refine (HN.out _ _ g0).mono ?_
  rintro r w1 ⟨rfl, hb1⟩
  replace HBK := Lib.hid (HBK.out.trans (hb1.mono HBK.out.size))
  clear y0 y8 y9 y10 y11 y12 y13 hb1
  have hy := (HY.out _ HBK.out).1
  obtain ⟨y0, y8, y9, y10, y11, y12, y13⟩ := hy
  go_upto_region 3 with fail
  replace HBK := Lib.hid HBK.out.drew
  have hy := (HY.out _ HBK.out).1
  clear y0 y8 y9 y10 y11 y12 y13
  go_region_held3 (EvtS b0 4 seq idx size now name root) (first | exact hy | go_keep) (first
    | (go_at_call 30; refine (HN.out _ _ (by assumption)).mono ?_; rintro r w2 ⟨rfl, hb1⟩; replace HBK := Lib.hid (HBK.out.trans (hb1.mono HBK.out.size)); clear hy hb1; have hy := (HY.out _ HBK.out).1)
    | (go_at_call 31; refine (HX.out _ _ (by assumption)).mono ?_; rintro r w2 ⟨rfl, hb1⟩; replace HBK := Lib.hid (HBK.out.trans (hb1.mono HBK.out.size)); clear hy hb1; have hy := (HY.out _ HBK.out).1))
  all_goals
    have HF := Lib.hid (HY.out _ HBK.out).2
    clear hy m1 m2
    go_wp2_with fail
    go_ret
    exact ⟨rfl, by rw [hb0]; exact HF.out⟩
set_option maxRecDepth 100000 in
set_option maxHeartbeats 16000000 in
theorem ebytes5_any {w : World} {v : Evt} {A B : Option Addr} {ca cb : Nat} (hv : Ev.right v = true) (hk : v.kind = 5) :
    Calls Try.prog 12 #[v.val A ca B cb] w fun r w' => r = .returned (.string (S (Ev.enc v))) ∧ Below w.heap.size w w' := by
  rw [Ev.right4 (Or.inr hk), Bool.and_eq_true, Ev.rng_iff] at hv
  rw [Ev.enc4 (Or.inr hk)]
  unfold Evt.val
  obtain ⟨kind, ⟨id, cls, born, slot, L, gone, H⟩, seq, idx, name, size, root, now⟩ := v
  dsimp only at *
  subst hk
  have HY := Lib.hid (evtHeld (w := w) (K := 5) (I := id) (C := cls) (Bo := born) (Sl := slot) (A := A) (n := L.length) (ca := ca) (G := gone) (B := B) (m := H.length) (cb := cb) (Sq := seq) (Ix := idx) (Nm := name) (Sz := size) (Rt := root) (Nw := now))
  dsimp only at HY
  have HN := Lib.hid (fun n W h => enumH n W h)
  have HX := Lib.hid (fun l W h => etextH l W h)
  have g0 := numH_of (n := 5) (by omega) (by omega)
  have l0 := Ev.encL_len (n := 5) (by omega)
  have g1 := numH_of (n := seq) (by omega) (by omega)
  have l1 := Ev.encL_len (n := seq) (by omega)
  have wl := (Pap.word_len hv.2).2
  have t1 := txtH_of (l := name) (by omega)
  have s1 := Ev.txt_len (s := name) (by omega)
  clear hv
  generalize M.encL = F at *
  generalize Ev.txt = T at *
  have m1 : ¬ 9223372036854775807 < (F 5).length + (F seq).length := by omega
  have m2 : ¬ 9223372036854775807 < (F 5).length + (F seq).length + (T name).length := by omega
  clear l0 l1 s1 wl
  go_enter Try.func12, Try.ntmps12
  go_upto_region 1 with fail
  generalize w.alloc (.cells #[.int .i64 5, .string (S id), .int .i64 cls, .int .i64 born, .int .i64 slot, .slice A L.length ca, .bool gone, .slice B H.length cb, .int .i64 seq, .int .i64 idx, .string (S name), .int .i64 size, .string (S root), .int .i64 now] 29) = W0 at HY ⊢
  generalize hb0 : w.heap.size = b0 at HY ⊢
  have HBK := Lib.hid (Below.refl W0.heap.size W0)
  have hy := (HY.out _ HBK.out).1
  obtain ⟨y0, y8, y9, y10, y11, y12, y13⟩ := hy
  go_wp2_with fail
  refine (HN.out _ _ g0).mono ?_
  rintro r w1 ⟨rfl, hb1⟩
  replace HBK := Lib.hid (HBK.out.trans (hb1.mono HBK.out.size))
  clear y0 y8 y9 y10 y11 y12 y13 hb1
  have hy := (HY.out _ HBK.out).1
  obtain ⟨y0, y8, y9, y10, y11, y12, y13⟩ := hy
  go_upto_region 3 with fail
  replace HBK := Lib.hid HBK.out.drew
  have hy := (HY.out _ HBK.out).1
  clear y0 y8 y9 y10 y11 y12 y13
  go_region_held3 (EvtS b0 5 seq idx size now name root) (first | exact hy | go_keep) (first
    | (go_at_call 30; refine (HN.out _ _ (by assumption)).mono ?_; rintro r w2 ⟨rfl, hb1⟩; replace HBK := Lib.hid (HBK.out.trans (hb1.mono HBK.out.size)); clear hy hb1; have hy := (HY.out _ HBK.out).1)
    | (go_at_call 31; refine (HX.out _ _ (by assumption)).mono ?_; rintro r w2 ⟨rfl, hb1⟩; replace HBK := Lib.hid (HBK.out.trans (hb1.mono HBK.out.size)); clear hy hb1; have hy := (HY.out _ HBK.out).1))
  all_goals
    have HF := Lib.hid (HY.out _ HBK.out).2
    clear hy m1 m2
    go_wp2_with fail
    go_ret
    exact ⟨rfl, by rw [hb0]; exact HF.out⟩
set_option maxRecDepth 100000 in
set_option maxHeartbeats 16000000 in
theorem ebytes6_any {w : World} {v : Evt} {A B : Option Addr} {ca cb : Nat} (hv : Ev.right v = true) (hk : v.kind = 6) :
    Calls Try.prog 12 #[v.val A ca B cb] w fun r w' => r = .returned (.string (S (Ev.enc v))) ∧ Below w.heap.size w w' := by
  rw [Ev.right6 hk, Bool.and_eq_true, Ev.rng_iff, decide_eq_true_iff] at hv
  rw [Ev.enc6 hk]
  unfold Evt.val
  obtain ⟨kind, ⟨id, cls, born, slot, L, gone, H⟩, seq, idx, name, size, root, now⟩ := v
  dsimp only at *
  subst hk
  have HY := Lib.hid (evtHeld (w := w) (K := 6) (I := id) (C := cls) (Bo := born) (Sl := slot) (A := A) (n := L.length) (ca := ca) (G := gone) (B := B) (m := H.length) (cb := cb) (Sq := seq) (Ix := idx) (Nm := name) (Sz := size) (Rt := root) (Nw := now))
  dsimp only at HY
  have HN := Lib.hid (fun n W h => enumH n W h)
  have HX := Lib.hid (fun l W h => etextH l W h)
  have g0 := numH_of (n := 6) (by omega) (by omega)
  have l0 := Ev.encL_len (n := 6) (by omega)
  have g1 := numH_of (n := size) (by omega) (by omega)
  have l1 := Ev.encL_len (n := size) (by omega)
  have wl := hv.2
  have t1 := txtH_of (l := root) (by omega)
  have s1 := Ev.txt_len (s := root) (by omega)
  clear hv
  generalize M.encL = F at *
  generalize Ev.txt = T at *
  have m1 : ¬ 9223372036854775807 < (F 6).length + (F size).length := by omega
  have m2 : ¬ 9223372036854775807 < (F 6).length + (F size).length + (T root).length := by omega
  clear l0 l1 s1 wl
  go_enter Try.func12, Try.ntmps12
  go_upto_region 1 with fail
  generalize w.alloc (.cells #[.int .i64 6, .string (S id), .int .i64 cls, .int .i64 born, .int .i64 slot, .slice A L.length ca, .bool gone, .slice B H.length cb, .int .i64 seq, .int .i64 idx, .string (S name), .int .i64 size, .string (S root), .int .i64 now] 29) = W0 at HY ⊢
  generalize hb0 : w.heap.size = b0 at HY ⊢
  have HBK := Lib.hid (Below.refl W0.heap.size W0)
  have hy := (HY.out _ HBK.out).1
  obtain ⟨y0, y8, y9, y10, y11, y12, y13⟩ := hy
  go_wp2_with fail
  refine (HN.out _ _ g0).mono ?_
  rintro r w1 ⟨rfl, hb1⟩
  replace HBK := Lib.hid (HBK.out.trans (hb1.mono HBK.out.size))
  clear y0 y8 y9 y10 y11 y12 y13 hb1
  have hy := (HY.out _ HBK.out).1
  obtain ⟨y0, y8, y9, y10, y11, y12, y13⟩ := hy
  go_upto_region 3 with fail
  replace HBK := Lib.hid HBK.out.drew
  have hy := (HY.out _ HBK.out).1
  clear y0 y8 y9 y10 y11 y12 y13
  go_region_held3 (EvtS b0 6 seq idx size now name root) (first | exact hy | go_keep) (first
    | (go_at_call 30; refine (HN.out _ _ (by assumption)).mono ?_; rintro r w2 ⟨rfl, hb1⟩; replace HBK := Lib.hid (HBK.out.trans (hb1.mono HBK.out.size)); clear hy hb1; have hy := (HY.out _ HBK.out).1)
    | (go_at_call 31; refine (HX.out _ _ (by assumption)).mono ?_; rintro r w2 ⟨rfl, hb1⟩; replace HBK := Lib.hid (HBK.out.trans (hb1.mono HBK.out.size)); clear hy hb1; have hy := (HY.out _ HBK.out).1))
  all_goals
    have HF := Lib.hid (HY.out _ HBK.out).2
    clear hy m1 m2
    go_wp2_with fail
    go_ret
    exact ⟨rfl, by rw [hb0]; exact HF.out⟩
set_option maxRecDepth 100000 in
set_option maxHeartbeats 16000000 in
theorem ebytes7_any {w : World} {v : Evt} {A B : Option Addr} {ca cb : Nat} (hv : Ev.right v = true) (hk : v.kind = 7) :
    Calls Try.prog 12 #[v.val A ca B cb] w fun r w' => r = .returned (.string (S (Ev.enc v))) ∧ Below w.heap.size w w' := by
  rw [Ev.right7 hk, Ev.rng_iff] at hv
  rw [Ev.enc7 hk]
  unfold Evt.val
  obtain ⟨kind, ⟨id, cls, born, slot, L, gone, H⟩, seq, idx, name, size, root, now⟩ := v
  dsimp only at *
  subst hk
  have HY := Lib.hid (evtHeld (w := w) (K := 7) (I := id) (C := cls) (Bo := born) (Sl := slot) (A := A) (n := L.length) (ca := ca) (G := gone) (B := B) (m := H.length) (cb := cb) (Sq := seq) (Ix := idx) (Nm := name) (Sz := size) (Rt := root) (Nw := now))
  dsimp only at HY
  have HN := Lib.hid (fun n W h => enumH n W h)
  have g0 := numH_of (n := 7) (by omega) (by omega)
  have l0 := Ev.encL_len (n := 7) (by omega)
  have g1 := numH_of (n := now) (by omega) (by omega)
  have l1 := Ev.encL_len (n := now) (by omega)
  clear hv
  generalize M.encL = F at *
  have m1 : ¬ 9223372036854775807 < (F 7).length + (F now).length := by omega
  clear l0 l1
  go_enter Try.func12, Try.ntmps12
  go_upto_region 1 with fail
  generalize w.alloc (.cells #[.int .i64 7, .string (S id), .int .i64 cls, .int .i64 born, .int .i64 slot, .slice A L.length ca, .bool gone, .slice B H.length cb, .int .i64 seq, .int .i64 idx, .string (S name), .int .i64 size, .string (S root), .int .i64 now] 29) = W0 at HY ⊢
  generalize hb0 : w.heap.size = b0 at HY ⊢
  have HBK := Lib.hid (Below.refl W0.heap.size W0)
  have hy := (HY.out _ HBK.out).1
  obtain ⟨y0, y8, y9, y10, y11, y12, y13⟩ := hy
  go_wp2_with fail
  refine (HN.out _ _ g0).mono ?_
  rintro r w1 ⟨rfl, hb1⟩
  replace HBK := Lib.hid (HBK.out.trans (hb1.mono HBK.out.size))
  clear y0 y8 y9 y10 y11 y12 y13 hb1
  have hy := (HY.out _ HBK.out).1
  obtain ⟨y0, y8, y9, y10, y11, y12, y13⟩ := hy
  go_wp2_with fail
  refine (HN.out _ _ g1).mono ?_
  rintro r w2 ⟨rfl, hb1⟩
  replace HBK := Lib.hid (HBK.out.trans (hb1.mono HBK.out.size))
  have HF := Lib.hid (HY.out _ HBK.out).2
  go_wp2_with fail
  go_ret
  exact ⟨rfl, by rw [hb0]; exact HF.out⟩
end Go.Proofs.Ytihhgingdgepcaa
