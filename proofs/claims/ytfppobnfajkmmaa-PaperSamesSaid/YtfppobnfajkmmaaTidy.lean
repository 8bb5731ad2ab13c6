/-
  The contract of paper's Tidy.
-/
import Derived.Test.YtfppobnfajkmmaaTidyMem
import Derived.Test.YtfppobnfajkmmaaPapB
import Derived.Test.YtfppobnfajkmmaaTake
namespace Go.Proofs.Ytfppobnfajkmmaa
open Go.RowKit Go.Lib Go.Sort
set_option linter.unusedVariables false

/-- What is read of a field's block. -/
abbrev FLies (g : Nat) (n : List UInt8) (k : Int) (f : Bool) (i : Int) (b : Nat) (t : List UInt8) (W : World) : Prop :=
  W.cell? ⟨g, 0, none⟩ = some (.string (S n)) ∧ W.cell? ⟨g, 1, none⟩ = some (.int .i64 k) ∧ W.cell? ⟨g, 2, none⟩ = some (.bool f) ∧ W.cell? ⟨g, 3, none⟩ = some (.int .i64 i) ∧ W.cell? ⟨g, 4, none⟩ = some (.int .u64 (b : Int)) ∧ W.cell? ⟨g, 5, none⟩ = some (.string (S t))
abbrev fcs (n : List UInt8) (k : Int) (f : Bool) (i : Int) (b : Nat) (t : List UInt8) : Array Value := #[.string (S n), .int .i64 k, .bool f, .int .i64 i, .int .u64 (b : Int), .string (S t)]
theorem flies {W : World} {g : Nat} {n : List UInt8} {k : Int} {f : Bool} {i : Int} {b : Nat} {t : List UInt8} (h : Has W g 40 (fcs n k f i b t)) : FLies g n k f i b t W :=
  ⟨h.cell 0, h.cell 1, h.cell 2, h.cell 3, h.cell 4, h.cell 5⟩
theorem grown_alloc {w w' : World} {row : Option Nat} (o : Obj) (h : (w.alloc o).grownBy w' row) : w.grownBy w' row :=
  ⟨h.os, h.tape, h.output, by have := h.size; simp at this; omega, fun i hi hr => (h.block i (by simp; omega) hr).trans (Below.heap_alloc w o i hi)⟩
theorem papSize : (Try.prog.info? 24).map (·.size) = some 3 := by kernel_rfl
/-- A paper that lies in a block, handed back. -/
theorem ret_pap {fn : Func} {p : Tmp} {R : Ending → World → Prop} {a : Act} {w : World} (h : fn.results = #[.cell p 24]) (g : Nat) (cs : Array Value)
    (hp : a.tmps.getD p undef = .pointer (some ⟨g, 0, none⟩)) (hd : a.defers = []) (hh : Has w g 24 cs) (hcs : cs.size = 3) (hR : R (.returned (.agg cs)) w) : bodyPost Try.prog fn R .ret a w :=
  bodyPost_ret (v := .agg cs) (results_cell_row h _ _ g 24 cs (0, 0) _ hp hh Try.underlying24 rfl (by rw [hcs]; exact papSize)) hd hR

/-- What Tidy leaves. -/
def TidyPost (w : World) (id : List UInt8) (cls : Int) (L : List Fld) (r : Ending) (w' : World) : Prop :=
  ∃ A b cap, r = .returned (.agg #[.string (S id), .int .i64 cls, .slice A L.length cap]) ∧ w.heap.size ≤ b ∧ FSl w' b A (fsort (L.map Fld.clean)) ∧ Below w.heap.size w w'

set_option maxHeartbeats 4000000 in
set_option maxRecDepth 100000 in
theorem tidy_any (id : List UInt8) (cls : Int) (L : List Fld) (hS : L.length ≤ 20 ∨ (L.length ≤ 39 ∧ SymOk)) (b cap : Nat) (A : Option Addr) (w : World) (hF : FSl w b A L) (hok : ∀ x ∈ L, x.ok) :
    Calls Try.prog 8 #[.agg #[.string (S id), .int .i64 cls, .slice A L.length cap]] w (TidyPost w id cls L) := by
  have hL : L.length ≤ 39 := by rcases hS with h | h <;> omega
  have HSS := Lib.hid hS; clear hS
  have HF := Lib.hid hF; clear hF
  have HOK := Lib.hid hok; clear hok
  obtain ⟨i0, hi, hz0, hz1, hz2⟩ := info_parts fldInfo
  have HI := Lib.hid (And.intro hi (And.intro hz0 (And.intro hz1 hz2))); clear hi hz0 hz1 hz2
  have hu := up2 (w := w) (.cells #[.string (S id), .int .i64 cls, .slice A L.length cap] 24) (.cells #[.string ⟨#[]⟩, .int .i64 0, .slice none 0 0] 24)
  have hP : Has ((w.alloc (.cells #[.string (S id), .int .i64 cls, .slice A L.length cap] 24)).alloc (.cells #[.string ⟨#[]⟩, .int .i64 0, .slice none 0 0] 24)) w.heap.size 24 #[.string (S id), .int .i64 cls, .slice A L.length cap] := (Has.made w _ _).of_alloc _
  have hR : Has ((w.alloc (.cells #[.string (S id), .int .i64 cls, .slice A L.length cap] 24)).alloc (.cells #[.string ⟨#[]⟩, .int .i64 0, .slice none 0 0] 24)) (w.heap.size + 1) 24 #[.string ⟨#[]⟩, .int .i64 0, .slice none 0 0] := has_new _ _ _ _
  have hF0 := HF.out.below hu (Nat.le_refl _)
  have hsz0 : ((w.alloc (.cells #[.string (S id), .int .i64 cls, .slice A L.length cap] 24)).alloc (.cells #[.string ⟨#[]⟩, .int .i64 0, .slice none 0 0] 24)).heap.size = w.heap.size + 2 := by simp
  have HW0 := Lib.hid (And.intro hu (And.intro hP (And.intro hR hF0))); clear hu hP hR hF0 HF
  go_enter Try.func8, Try.ntmps8
  go_wp2_with fail
  generalize ((w.alloc (.cells #[.string (S id), .int .i64 cls, .slice A L.length cap] 24)).alloc (.cells #[.string ⟨#[]⟩, .int .i64 0, .slice none 0 0] 24)) = W0 at HW0 hsz0 ⊢
  have HB0 : Hid (∀ W, Below (w.heap.size + 2) W0 W → Below w.heap.size w W ∧ Has W w.heap.size 24 #[.string (S id), .int .i64 cls, .slice A L.length cap] ∧ Has W (w.heap.size + 1) 24 #[.string ⟨#[]⟩, .int .i64 0, .slice none 0 0] ∧ FSl W b A L) := fun W hW =>
    ⟨HW0.out.1.trans (hW.mono (by omega)), HW0.out.2.1.below hW (by omega), HW0.out.2.2.1.below hW (by omega), HW0.out.2.2.2.below hW (by omega)⟩
  go_loopg [3, 9] L.length (fun g1 v3 v9 wr => ∃ k : Nat, k ≤ L.length ∧ v9 = .int .i64 (k : Int) ∧ L.length - k ≤ g1 ∧ wr.ownsRow (w.heap.size + 2) 40 6 v3 k (fl ((L.take k).map Fld.clean)) ∧ Below (w.heap.size + 2) W0 wr)
  case atStart => exact ⟨0, Nat.zero_le _, rfl, by omega, World.ownsRow_nil _ _ _ _, Below.refl _ _⟩
  case round =>
    obtain ⟨k, hk, rfl, hg, hown, hbk⟩ := hrel
    have hwsz : w.heap.size + 2 ≤ wr.heap.size := by have := hbk.size; omega
    by_cases hlt : k < L.length
    · have hki : (k : Int) < (L.length : Int) := by omega
      obtain ⟨off, hA, hbl, hfat⟩ := (HB0.out wr hbk).2.2.2 (by intro hc; rw [hc] at hlt; cases hlt)
      subst hA
      have hfk := hfat k hlt
      clear hfat
      have hOk := HOK.out L[k] (List.getElem_mem hlt)
      have hstep : (L.take (k + 1)).map Fld.clean = (L.take k).map Fld.clean ++ [L[k].clean] := by rw [List.take_succ_eq_append_getElem hlt, List.map_append]; rfl
      generalize L[k] = x at hfk hOk hstep
      obtain ⟨n, x⟩ := x
      obtain ⟨vk, vf, vi, vb, vt⟩ := x
      obtain ⟨c0, c1, c2, c3, c4, c5⟩ := hfk
      dsimp only at c0 c1 c2 c3 c4 c5
      have hC := fun W => clean_any ⟨vk, vf, vi, vb, vt⟩ hOk W
      have hcl : Fld.clean ⟨n, ⟨vk, vf, vi, vb, vt⟩⟩ = ⟨n, Val.clean ⟨vk, vf, vi, vb, vt⟩⟩ := rfl
      rw [hcl] at hstep
      clear hcl
      rw [Val.v_eq] at hC
      generalize Val.clean ⟨vk, vf, vi, vb, vt⟩ = y at hC hstep
      have HCL := Lib.hid hC; clear hC
      have HST := Lib.hid hstep; clear hstep hOk
      have HO := Lib.hid hown; clear hown
      go_wp2_with fail
      have HG : Has (wr.alloc (.cells (fcs n vk vf vi vb vt) 40)).drew wr.heap.size 40 (fcs n vk vf vi vb vt) := Has.made wr _ _
      have hb5 : Below wr.heap.size wr (wr.alloc (.cells (fcs n vk vf vi vb vt) 40)).drew := (up1 _).drew
      clear c0 c1 c2 c3 c4 c5
      generalize hW1 : wr.alloc (.cells (fcs n vk vf vi vb vt) 40) = W1 at HG hb5 ⊢
      clear hW1
      have hx := flies HG
      have HGB := Lib.hid (And.intro HG hb5); clear HG hb5
      refine wp_region_held_drew (S := FLies wr.heap.size n vk vf vi vb vt) (by kernel_rfl) hx (fun hHeld => ?_)
      first
      | (refine take_wanted (i := 0) (v := ?_) rfl rfl (by kernel_rfl) (by kernel_rfl) (by kernel_rfl) (fun _ _ _ h => h) (by rfl) (by assumption) ?_ ?_; rotate_left; (focus (intro w hSw; (try dsimp only at hSw); go_simp; first | done | with_reducible rfl)); (simp only [Act.at, List.setIfInBounds_toArray, List.set_cons_zero, List.set_cons_succ]))
      | (refine take_unwanted (i := 0) rfl rfl (by kernel_rfl) (by kernel_rfl) (by kernel_rfl) (fun _ _ _ h => h) (by rfl) (by assumption) ?_; (simp only [Act.at, List.setIfInBounds_toArray, List.set_cons_zero, List.set_cons_succ]))
      first
      | (refine take_wanted (i := 1) (v := ?_) rfl rfl (by kernel_rfl) (by kernel_rfl) (by kernel_rfl) (fun _ _ _ h => h) (by rfl) (by assumption) ?_ ?_; rotate_left; (focus (intro w hSw; (try dsimp only at hSw); go_simp; first | done | with_reducible rfl)); (simp only [Act.at, List.setIfInBounds_toArray, List.set_cons_zero, List.set_cons_succ]))
      | (refine take_unwanted (i := 1) rfl rfl (by kernel_rfl) (by kernel_rfl) (by kernel_rfl) (fun _ _ _ h => h) (by rfl) (by assumption) ?_; (simp only [Act.at, List.setIfInBounds_toArray, List.set_cons_zero, List.set_cons_succ]))
      first
      | (refine take_wanted (i := 2) (v := ?_) rfl rfl (by kernel_rfl) (by kernel_rfl) (by kernel_rfl) (fun _ _ _ h => h) (by rfl) (by assumption) ?_ ?_; rotate_left; (focus (intro w hSw; (try dsimp only at hSw); go_simp; first | done | with_reducible rfl)); (simp only [Act.at, List.setIfInBounds_toArray, List.set_cons_zero, List.set_cons_succ]))
      | (refine take_unwanted (i := 2) rfl rfl (by kernel_rfl) (by kernel_rfl) (by kernel_rfl) (fun _ _ _ h => h) (by rfl) (by assumption) ?_; (simp only [Act.at, List.setIfInBounds_toArray, List.set_cons_zero, List.set_cons_succ]))
      first
      | (refine take_wanted (i := 3) (v := ?_) rfl rfl (by kernel_rfl) (by kernel_rfl) (by kernel_rfl) (fun _ _ _ h => h) (by rfl) (by assumption) ?_ ?_; rotate_left; (focus (intro w hSw; (try dsimp only at hSw); go_simp; first | done | with_reducible rfl)); (simp only [Act.at, List.setIfInBounds_toArray, List.set_cons_zero, List.set_cons_succ]))
      | (refine take_unwanted (i := 3) rfl rfl (by kernel_rfl) (by kernel_rfl) (by kernel_rfl) (fun _ _ _ h => h) (by rfl) (by assumption) ?_; (simp only [Act.at, List.setIfInBounds_toArray, List.set_cons_zero, List.set_cons_succ]))
      first
      | (refine take_wanted (i := 4) (v := ?_) rfl rfl (by kernel_rfl) (by kernel_rfl) (by kernel_rfl) (fun _ _ _ h => h) (by rfl) (by assumption) ?_ ?_; rotate_left; (focus (intro w hSw; (try dsimp only at hSw); go_simp; first | done | with_reducible rfl)); (simp only [Act.at, List.setIfInBounds_toArray, List.set_cons_zero, List.set_cons_succ]))
      | (refine take_unwanted (i := 4) rfl rfl (by kernel_rfl) (by kernel_rfl) (by kernel_rfl) (fun _ _ _ h => h) (by rfl) (by assumption) ?_; (simp only [Act.at, List.setIfInBounds_toArray, List.set_cons_zero, List.set_cons_succ]))
      refine take_call (i := 5) (by kernel_rfl) rfl rfl (by rfl) (fun K hK => ?_)
      go_simp
      refine (HCL.out _).mono ?_
      rintro r w1 ⟨rfl, hb1⟩
      replace HGB := Lib.hid (And.intro (HGB.out.1.below hb1 HGB.out.1.lt) (HGB.out.2.trans (hb1.mono HGB.out.2.size)))
      clear hx
      have hx := flies HGB.out.1
      clear hb1
      refine hK.out _ _ hx (fun hHeld => ?_)
      clear hK K
      try simp only [Act.put, List.setIfInBounds_toArray, List.set_cons_zero, List.set_cons_succ]
      obtain ⟨yk, yf, yi, yb, yt⟩ := y
      rw [Val.v_eq]
      first
      | (refine take_wanted (i := 6) (v := ?_) rfl rfl (by kernel_rfl) (by kernel_rfl) (by kernel_rfl) (fun _ _ _ h => h) (by rfl) (by assumption) ?_ ?_; rotate_left; (focus (intro w hSw; (try dsimp only at hSw); go_simp; first | done | with_reducible rfl)); (simp only [Act.at, List.setIfInBounds_toArray, List.set_cons_zero, List.set_cons_succ]))
      | (refine take_unwanted (i := 6) rfl rfl (by kernel_rfl) (by kernel_rfl) (by kernel_rfl) (fun _ _ _ h => h) (by rfl) (by assumption) ?_; (simp only [Act.at, List.setIfInBounds_toArray, List.set_cons_zero, List.set_cons_succ]))
      refine take_call (i := 7) (by kernel_rfl) rfl rfl (by rfl) (fun K hK => ?_)
      go_simp
      have HG8 : Has (w1.alloc (.cells (fcs n yk yf yi yb yt) 40)) wr.heap.size 40 (fcs n vk vf vi vb vt) := HGB.out.1.below (up1 _) HGB.out.1.lt
      have hb8 : Below wr.heap.size wr (w1.alloc (.cells (fcs n yk yf yi yb yt) 40)) := HGB.out.2.trans ((up1 _).mono HGB.out.2.size)
      have hM8 : ∀ (j : Nat) (u : Value), (Fld.cs ⟨n, ⟨yk, yf, yi, yb, yt⟩⟩)[j]? = some u → (w1.alloc (.cells (fcs n yk yf yi yb yt) 40)).cell? ((⟨w1.heap.size, 0, none⟩ : Addr).add j) = some u := fun j u hu => by
        have e : (⟨w1.heap.size, 0, none⟩ : Addr).add j = ⟨w1.heap.size, j, none⟩ := by rw [Addr.add_mid, Nat.zero_add]
        rw [e, (Has.made w1 _ _).cell]
        simpa [Fld.cs] using hu
      have hO8 := own_below' HO.out hb8
      have hszb : w.heap.size + 2 ≤ (w1.alloc (.cells (fcs n yk yf yi yb yt) 40)).heap.size := by have := hb8.size; omega
      clear hx
      have hx := flies HG8
      generalize w1.alloc (.cells (fcs n yk yf yi yb yt) 40) = W8 at HG8 hb8 hM8 hO8 hszb hx ⊢
      have HM8 := Lib.hid hM8; clear hM8
      have HO8 := Lib.hid hO8; clear hO8
      have HG := Lib.hid (And.intro HG8 hb8); clear HG8 hb8
      refine hK.out _ _ hx (fun hHeld => ?_)
      clear hK K
      try simp only [Act.put, List.setIfInBounds_toArray, List.set_cons_zero, List.set_cons_succ]
      refine take_call (i := 8) (by kernel_rfl) rfl rfl (by rfl) (fun K hK => ?_)
      refine wp_append_own _ (.tmp 13) (.tmp 20) 22 rfl (w.heap.size + 2) 40 i0 (.agg #[.string ⟨#[]⟩, .int .i64 0, .bool false, .int .i64 0, .int .u64 0, .string ⟨#[]⟩]) 6 64 Try.underlying22 HI.out.1 HI.out.2.1 HI.out.2.2.1 HI.out.2.2.2 rfl (by decide) u3 k (fl ((L.take k).map Fld.clean)) rfl HO8.out ⟨w1.heap.size, 0, none⟩ 1 1 (Fld.cs ⟨n, ⟨yk, yf, yi, yb, yt⟩⟩) rfl rfl HM8.out (Fld.cs_one _) (by simp only [maxLen]; omega) (by omega) hszb ?_
      intro v8 w3 hown3 hg3 hnil3
      have hrow : ∀ k, u3.ownBlock = some k → w.heap.size + 2 ≤ k ∧ k < wr.heap.size := fun k hk => HO.out.lt k hk
      have hG3 : Has w3 wr.heap.size 40 (fcs n vk vf vi vb vt) := (hg3.block _ HG.out.1.lt (fun e => by have := (hrow _ e.symm).2; omega)).trans HG.out.1
      have hb3 : Below (w.heap.size + 2) W0 w3 := (hbk.trans (HG.out.2.mono (by omega))).grown hg3 hszb (fun k hk => (hrow k hk).1)
      have hown4 : w3.ownsRow (w.heap.size + 2) 40 6 v8 (k + 1) (fl ((L.take (k + 1)).map Fld.clean)) := by rw [HST.out, fl_snoc]; exact hown3
      clear hx
      have hx := flies hG3
      clear hown3 hg3 hnil3 hrow hG3
      have HO4 := Lib.hid hown4; clear hown4
      have HB3 := Lib.hid hb3; clear hb3
      refine hK.out _ _ hx (fun hHeld => ?_)
      clear hK K
      try simp only [Act.put, List.setIfInBounds_toArray, List.set_cons_zero, List.set_cons_succ]
      first
      | (refine take_wanted (i := 9) (v := ?_) rfl rfl (by kernel_rfl) (by kernel_rfl) (by kernel_rfl) (fun _ _ _ h => h) (by rfl) (by assumption) ?_ ?_; rotate_left; (focus (intro w hSw; (try dsimp only at hSw); go_simp; first | done | with_reducible rfl)); (simp only [Act.at, List.setIfInBounds_toArray, List.set_cons_zero, List.set_cons_succ]))
      | (refine take_unwanted (i := 9) rfl rfl (by kernel_rfl) (by kernel_rfl) (by kernel_rfl) (fun _ _ _ h => h) (by rfl) (by assumption) ?_; (simp only [Act.at, List.setIfInBounds_toArray, List.set_cons_zero, List.set_cons_succ]))
      refine wpAnyH_done (by kernel_rfl) ?_ _
      clear hx hHeld
      go_wp2_with fail
      go_roundg (L.length - (k + 1))
      case measure => omega
      case rel => exact ⟨k + 1, by omega, by go_num, Nat.le_refl _, HO4.out, HB3.out⟩
    · obtain rfl : k = L.length := by omega
      rw [List.take_length] at hown
      rcases own_fields hown (by simp) with ⟨rfl, hnil⟩ | ⟨g, cp, rfl, hgB, hgl, hH⟩
      · have hL0 : L = [] := List.map_eq_nil_iff.1 hnil
        subst hL0
        obtain ⟨hbw, hp, hr, -⟩ := HB0.out wr hbk
        have hSN := fun W => sortStable_nil none 0 W
        have HSN := Lib.hid hSN; clear hSN
        have c0 := hp.cell 0; have c1 := hp.cell 1; have c2 := hp.cell 2; have f2 := hp.free 2
        have d0 := hr.cell 0; have d1 := hr.cell 1; have d2 := hr.cell 2; have e0 := hr.free 0; have e1 := hr.free 1; have e2 := hr.free 2
        have hgp := hp.lt; have hgr := hr.lt
        have hfin : Has (((((wr.setCell ⟨w.heap.size, 2, none⟩ (.slice none 0 0)).setCell ⟨w.heap.size + 1, 0, none⟩ (.string (S id))).setCell ⟨w.heap.size + 1, 1, none⟩ (.int .i64 cls)).setCell ⟨w.heap.size + 1, 2, none⟩ (.slice none 0 0))) (w.heap.size + 1) 24 #[.string (S id), .int .i64 cls, .slice none 0 0] := by
          have := (((hr.other (p := ⟨w.heap.size, 2, none⟩) (by simp) (.slice none 0 0)).set 0 (.string (S id))).set 1 (.int .i64 cls)).set 2 (.slice none 0 0)
          simpa using this
        have hob := (((Only.set (wr.setCell ⟨w.heap.size, 2, none⟩ (.slice none 0 0)) (w.heap.size + 1) 0 (.string (S id))).trans (Only.set _ (w.heap.size + 1) 1 (.int .i64 cls))).trans (Only.set _ (w.heap.size + 1) 2 (.slice none 0 0))).below ((Only.set wr w.heap.size 2 (.slice none 0 0)).below hbw (by omega) (Nat.le_refl _)) (by simp; omega) (by omega)
        have HFIN := Lib.hid (And.intro hfin hob); clear hfin hob hbw hp hr
        go_wp2_with fail
        refine (HSN.out _).mono ?_
        rintro r w1 ⟨rfl, rfl⟩
        go_wp2_with fail
        exact ret_pap (p := 2) rfl (w.heap.size + 1) _ rfl rfl HFIN.out.1 rfl ⟨none, w.heap.size, 0, rfl, Nat.le_refl _, fun h => absurd rfl h, HFIN.out.2⟩
      · have hS := sortStable_any (L.map Fld.clean) (by simpa using HSS.out) g 0 cp wr hH hgl
        rw [List.length_map] at hS ⊢
        have HSX := Lib.hid hS; clear hS
        go_wp2_with fail
        refine (HSX.out).mono ?_
        rintro r w1 ⟨rfl, m, os, rfl⟩
        have hh1 : HoldsK Fld.cs 6 (SW wr g 0 m (fsort (L.map Fld.clean)).toArray os) g 0 (fsort (L.map Fld.clean)).toArray := SW_holds hH hgl m _ os (by simp [fsort_len])
        have hb1 : Below (w.heap.size + 2) W0 (SW wr g 0 m (fsort (L.map Fld.clean)).toArray os) := SW_below hbk hgB hwsz
        have hg1 : g < (SW wr g 0 m (fsort (L.map Fld.clean)).toArray os).heap.size := Nat.lt_of_lt_of_le hgl (SW_size _ _ _ _ _ _)
        have hfs := holds_fsl hh1 hg1
        generalize SW wr g 0 m (fsort (L.map Fld.clean)).toArray os = W5 at hb1 hg1 hfs ⊢
        clear hh1
        generalize hFS : fsort (L.map Fld.clean) = FS at hfs
        obtain ⟨hbw, hp, hr, -⟩ := HB0.out W5 hb1
        have c0 := hp.cell 0; have c1 := hp.cell 1; have c2 := hp.cell 2; have f2 := hp.free 2
        have d0 := hr.cell 0; have d1 := hr.cell 1; have d2 := hr.cell 2; have e0 := hr.free 0; have e1 := hr.free 1; have e2 := hr.free 2
        have hgp := hp.lt; have hgr := hr.lt
        have hfin : Has (((((W5.setCell ⟨w.heap.size, 2, none⟩ (.slice (some ⟨g, 0, none⟩) L.length cp)).setCell ⟨w.heap.size + 1, 0, none⟩ (.string (S id))).setCell ⟨w.heap.size + 1, 1, none⟩ (.int .i64 cls)).setCell ⟨w.heap.size + 1, 2, none⟩ (.slice (some ⟨g, 0, none⟩) L.length cp))) (w.heap.size + 1) 24 #[.string (S id), .int .i64 cls, .slice (some ⟨g, 0, none⟩) L.length cp] := by
          have := (((hr.other (p := ⟨w.heap.size, 2, none⟩) (by simp) (.slice (some ⟨g, 0, none⟩) L.length cp)).set 0 (.string (S id))).set 1 (.int .i64 cls)).set 2 (.slice (some ⟨g, 0, none⟩) L.length cp)
          simpa using this
        have ho1 := Only.set W5 w.heap.size 2 (.slice (some ⟨g, 0, none⟩) L.length cp)
        have ho2 := ((Only.set (W5.setCell ⟨w.heap.size, 2, none⟩ (.slice (some ⟨g, 0, none⟩) L.length cp)) (w.heap.size + 1) 0 (.string (S id))).trans (Only.set _ (w.heap.size + 1) 1 (.int .i64 cls))).trans (Only.set _ (w.heap.size + 1) 2 (.slice (some ⟨g, 0, none⟩) L.length cp))
        have hob := ho2.below (ho1.below hbw (by omega) (Nat.le_refl _)) (by simp; omega) (by omega)
        have hfs1 := hfs.keep ho1.size (ho1.block g hg1 (fun e => by injection e with e; omega))
        have hfs2 := hfs1.keep ho2.size (ho2.block g (by simpa using hg1) (fun e => by injection e with e; omega))
        have HFIN := Lib.hid (And.intro hfin (And.intro hob hfs2)); clear hfin hob hbw hp hr ho1 ho2 hfs hfs1 hfs2
        have HFS := Lib.hid hFS; clear hFS
        go_wp2_with fail
        exact ret_pap (p := 2) rfl (w.heap.size + 1) _ rfl rfl HFIN.out.1 rfl ⟨_, g, cp, rfl, by omega, by rw [HFS.out]; exact HFIN.out.2.2, HFIN.out.2.1⟩
end Go.Proofs.Ytfppobnfajkmmaa
