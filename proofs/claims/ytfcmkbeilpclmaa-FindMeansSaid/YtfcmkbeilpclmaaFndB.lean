/-
  The contract of find's within.
-/
import Derived.Test.YtfcmkbeilpclmaaFndMem
import Derived.Test.YtfcmkbeilpclmaaValL
namespace Go.Proofs.Ytfcmkbeilpclmaa
open Go.RowKit Go.Lib
set_option linter.unusedVariables false

abbrev vcs5 (k : Int) (f : Bool) (i : Int) (b : Nat) (t : List UInt8) : Array Value := #[.int .i64 k, .bool f, .int .i64 i, .int .u64 (b : Int), .string (S t)]
abbrev VLies (g : Nat) (k : Int) (f : Bool) (i : Int) (b : Nat) (t : List UInt8) (W : World) : Prop :=
  W.cell? ⟨g, 0, none⟩ = some (.int .i64 k) ∧ W.cell? ⟨g, 1, none⟩ = some (.bool f) ∧ W.cell? ⟨g, 2, none⟩ = some (.int .i64 i) ∧ W.cell? ⟨g, 3, none⟩ = some (.int .u64 (b : Int)) ∧ W.cell? ⟨g, 4, none⟩ = some (.string (S t))
theorem vlies {W : World} {g : Nat} {k : Int} {f : Bool} {i : Int} {b : Nat} {t : List UInt8} {T : TypeId} (h : Has W g T (vcs5 k f i b t)) : VLies g k f i b t W := ⟨h.cell 0, h.cell 1, h.cell 2, h.cell 3, h.cell 4⟩

set_option maxHeartbeats 4000000 in
set_option maxRecDepth 100000 in
theorem within_any (t : Fnd.Trm) (v : Val) (ht : t.Ok) (hv : v.ok) (w : World) :
    Calls Try.prog 32 #[t.v, v.v] w fun r w' => r = .returned (.bool (Fnd.inLow t v && Fnd.inTop t v)) ∧ Below w.heap.size w w' := by
  have h1 := fun W => compare_any v t.low hv ht.low W
  have h2 := fun W => compare_any v t.high hv ht.high W
  have hres : ∀ c1 c2 : Int, Val.cmp v t.low = c1 → Val.cmp v t.high = c2 → (Fnd.inLow t v && Fnd.inTop t v) = ((!t.hasLow || (decide (v.kind = t.low.kind) && decide (0 ≤ c1))) && (!t.hasTop || (decide (v.kind = t.high.kind) && decide (c2 ≤ 0)))) := fun c1 c2 e1 e2 => by
    unfold Fnd.inLow Fnd.inTop
    rw [e1, e2]
  generalize Val.cmp v t.low = c1 at h1 hres
  generalize Val.cmp v t.high = c2 at h2 hres
  rw [hres c1 c2 rfl rfl]
  clear hres ht hv
  obtain ⟨n, ⟨lk, lf, li, lb, lt⟩, ⟨hk, hf, hi, hb, htx⟩, a, b, c⟩ := t
  obtain ⟨k, f, i, bb, tx⟩ := v
  rw [Fnd.Trm.v_eq, Val.v_eq]
  rw [Val.v_eq, Val.v_eq] at h1 h2
  dsimp only
  have H1 := Lib.hid h1; clear h1
  have H2 := Lib.hid h2; clear h2
  have hT := (Has.made w 37 (tcs n lk lf li lb lt hk hf hi hb htx a b c)).of_alloc (.cells (vcs5 k f i bb tx) 35)
  have hV := has_new w (.cells (tcs n lk lf li lb lt hk hf hi hb htx a b c) 37) 35 (vcs5 k f i bb tx)
  have hB := up2 (w := w) (.cells (tcs n lk lf li lb lt hk hf hi hb htx a b c) 37) (.cells (vcs5 k f i bb tx) 35)
  have w1 : a = false ∨ (a = true ∧ (k != lk) = true ∧ decide (k = lk) = false) ∨ (a = true ∧ (k != lk) = false ∧ decide (k = lk) = true ∧ c1 < 0 ∧ decide (0 ≤ c1) = false) ∨ (a = true ∧ (k != lk) = false ∧ decide (k = lk) = true ∧ ¬ c1 < 0 ∧ decide (0 ≤ c1) = true) := by
    by_cases e : k = lk <;> by_cases e2 : c1 < 0 <;> cases a <;> simp [e, e2] <;> omega
  have w2 : b = false ∨ (b = true ∧ (k == hk) = false ∧ decide (k = hk) = false) ∨ (b = true ∧ (k == hk) = true ∧ decide (k = hk) = true ∧ c2 ≤ 0 ∧ decide (c2 ≤ 0) = true) ∨ (b = true ∧ (k == hk) = true ∧ decide (k = hk) = true ∧ ¬ c2 ≤ 0 ∧ decide (c2 ≤ 0) = false) := by
    by_cases e : k = hk <;> by_cases e2 : c2 ≤ 0 <;> cases b <;> simp [e, e2]
  obtain ⟨res, hres⟩ : ∃ r, r = (!a || decide (k = lk) && decide (0 ≤ c1)) := ⟨_, rfl⟩
  obtain ⟨res2, hres2⟩ : ∃ r, r = (!b || decide (k = hk) && decide (c2 ≤ 0)) := ⟨_, rfl⟩
  rw [← hres, ← hres2]
  have HR := Lib.hid hres; clear hres
  have HR2 := Lib.hid hres2; clear hres2
  go_enter Try.func32, Try.ntmps32
  go_upto_region 1 with fail
  have hz : ((w.alloc (.cells (tcs n lk lf li lb lt hk hf hi hb htx a b c) 37)).alloc (.cells (vcs5 k f i bb tx) 35)).heap.size = w.heap.size + 2 := by simp
  generalize (w.alloc (.cells (tcs n lk lf li lb lt hk hf hi hb htx a b c) 37)).alloc (.cells (vcs5 k f i bb tx) 35) = W0 at hT hV hB hz ⊢
  have HB := Lib.hid hB; clear hB
  have HT := Lib.hid hT
  have HV := Lib.hid hV
  obtain ⟨t0, t1, t2, t3, t4, t5, t6, t7, t8, t9, t10, t11, t12, t13⟩ := tlies hT
  obtain ⟨v0, v1, v2, v3, v4⟩ := vlies hV
  clear hT hV
  rcases w1 with rfl | ⟨rfl, ek, dk⟩ | ⟨rfl, ek, dk, ec, dc⟩ | ⟨rfl, ek, dk, ec, dc⟩
  case' inr.inl =>
    go_wp2_with fail
    go_ret
    exact ⟨by rw [HR.out, dk]; rfl, HB.out⟩
  case' inr.inr.inl =>
    go_wp2_with fail
    refine (H1.out _).mono ?_
    rintro r w1 ⟨rfl, hb1⟩
    have HB1 := Lib.hid (HB.out.trans (hb1.mono HB.out.size)); clear hb1
    go_wp2_with fail
    go_ret
    exact ⟨by rw [HR.out, dk, dc]; rfl, HB1.out⟩
  case' inr.inr.inr =>
    go_wp2_with fail
    refine (H1.out _).mono ?_
    rintro r w1 ⟨rfl, hb1⟩
    have hT1 := HT.out.below hb1 (by omega)
    have hV1 := HV.out.below hb1 (by omega)
    have HB1 := Lib.hid (HB.out.trans (hb1.mono HB.out.size))
    have hz1 := hb1.size
    rw [hz] at hz1
    have HRR : Hid (res = true) := by rw [HR.out, dk, dc]; rfl
    have ec1 := ec
    clear hb1 HT HV HB hz W0 ek dk ec dc HR t0 t1 t2 t3 t4 t5 t6 t7 t8 t9 t10 t11 t12 t13 v0 v1 v2 v3 v4
  case' inl =>
    have hT1 := HT.out
    have hV1 := HV.out
    have HB1 := HB
    have hz1 := Nat.le_of_eq hz.symm
    have HRR : Hid (res = true) := by rw [HR.out]; rfl
    clear HT HV HB hz HR t0 t1 t2 t3 t4 t5 t6 t7 t8 t9 t10 t11 t12 t13 v0 v1 v2 v3 v4
    obtain ⟨w1, rfl⟩ : ∃ W, W = W0 := ⟨_, rfl⟩
  all_goals
    obtain ⟨t0, t1, t2, t3, t4, t5, t6, t7, t8, t9, t10, t11, t12, t13⟩ := tlies hT1
    obtain ⟨v0, v1, v2, v3, v4⟩ := vlies hV1
    clear hT1 hV1
    rcases w2 with rfl | ⟨rfl, ek, dk⟩ | ⟨rfl, ek, dk, ec, dc⟩ | ⟨rfl, ek, dk, ec, dc⟩
    · go_wp2_with fail
      go_ret
      exact ⟨by rw [HRR.out, HR2.out]; rfl, HB1.out⟩
    · go_wp2_with fail
      go_ret
      exact ⟨by rw [HRR.out, HR2.out, dk]; rfl, HB1.out⟩
    · go_wp2_with fail
      refine (H2.out _).mono ?_
      rintro r w3 ⟨rfl, hb3⟩
      have HB3 := Lib.hid (HB1.out.trans (hb3.mono HB1.out.size)); clear hb3
      go_wp2_with fail
      go_ret
      exact ⟨by rw [HRR.out, HR2.out, dk, dc]; rfl, HB3.out⟩
    · go_wp2_with fail
      refine (H2.out _).mono ?_
      rintro r w3 ⟨rfl, hb3⟩
      have HB3 := Lib.hid (HB1.out.trans (hb3.mono HB1.out.size)); clear hb3
      go_wp2_with fail
      go_ret
      exact ⟨by rw [HRR.out, HR2.out, dk, dc]; rfl, HB3.out⟩
end Go.Proofs.Ytfcmkbeilpclmaa
