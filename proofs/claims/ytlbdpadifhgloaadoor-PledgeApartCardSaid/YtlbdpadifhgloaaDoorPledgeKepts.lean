/-
  The contract of PledgeKepts.
-/
import Derived.Test.YtlbdpadifhgloaaDoorOneM
import Derived.Test.YtlbdpadifhgloaaDoorLaw
import Derived.Test.YtlbdpadifhgloaaDoorRows
import Derived.Deep.Slices
import Derived.SizedLaws
namespace Go.Proofs.YtlbdpadifhgloaaDoor
open Go.ChangeShapes Go.WideShapes Go.ChangeAt Go.RowKit
open Go.ChangeMaps (open_string shut_string)
set_option linter.unusedVariables false

theorem array4 {α : Type} {cs : Array α} (h : cs.size = 4) : ∃ c0 c1 c2 c3, cs = #[c0, c1, c2, c3] := by
  obtain ⟨l⟩ := cs
  match l, h with
  | [c0, c1, c2, c3], _ => exact ⟨c0, c1, c2, c3, rfl⟩
set_option maxRecDepth 100000 in
theorem slip_open {H : Type} {enc : TypeId × Value → H} {W : World} {r : Reach} {b0 : Nat} {v : Value} {d : DataW H} {p : List MemPlace}
    (hv : Value.okWide Tryd.prog W r b0 38 v) (h : DataW.Trod enc Tryd.prog W 0 (fun _ => true) true 38 v d p) :
    ∃ (n pl c : List UInt8) (e : Bool), v = .agg #[.string (S n), .string (S pl), .string (S c), .bool e] := by
  obtain ⟨cs, rfl, hsz⟩ := okWide_struct Tryd.underlying38 hv
  have hC : Tryd.prog.cellsOf 38 = 4 := by kernel_rfl
  obtain ⟨c0, c1, c2, c3, rfl⟩ := array4 (hsz.trans hC)
  obtain ⟨fuel, hf⟩ := h
  have hcell : (Value.agg #[c0, c1, c2, c3]).cells.toList = [c0, c1, c2, c3] := rfl
  rw [hcell] at hf
  obtain ⟨ys, n', hn', hy, hlen, hyl, hf⟩ := DataW.trod_struct Tryd.underlying38 hf
  match ys, hyl with
  | [y0, y1, y2, y3], _ =>
    have C0 : Tryd.prog.cellsOf 9 = 1 := by kernel_rfl
    have C1 : Tryd.prog.cellsOf 4 = 1 := by kernel_rfl
    have f0 : DataW.trod enc Tryd.prog W 0 (fun _ => true) true n' 9 (List.take (Tryd.prog.cellsOf 9) (List.drop 0 [c0, c1, c2, c3])) = some y0 := hf 0 _ rfl
    have f1 : DataW.trod enc Tryd.prog W 0 (fun _ => true) true n' 9 (List.take (Tryd.prog.cellsOf 9) (List.drop 1 [c0, c1, c2, c3])) = some y1 := hf 1 _ rfl
    have f2 : DataW.trod enc Tryd.prog W 0 (fun _ => true) true n' 9 (List.take (Tryd.prog.cellsOf 9) (List.drop 2 [c0, c1, c2, c3])) = some y2 := hf 2 _ rfl
    have f3 : DataW.trod enc Tryd.prog W 0 (fun _ => true) true n' 4 (List.take (Tryd.prog.cellsOf 4) (List.drop 3 [c0, c1, c2, c3])) = some y3 := hf 3 _ rfl
    rw [C0] at f0 f1 f2
    rw [C1] at f3
    obtain ⟨T0, e0, x0, _⟩ := DataW.trod_string Tryd.underlying9 f0
    obtain ⟨T1, e1, x1, _⟩ := DataW.trod_string Tryd.underlying9 f1
    obtain ⟨T2, e2, x2, _⟩ := DataW.trod_string Tryd.underlying9 f2
    obtain ⟨F, e3, x3⟩ := DataW.trod_bool Tryd.underlying4 f3
    simp at e0 e1 e2 e3
    subst e0; subst e1; subst e2; subst e3
    exact ⟨T0.data.toList, T1.data.toList, T2.data.toList, F, by rw [S_of, S_of, S_of]⟩

/-- A mill that was made behind w0, in the blocks g and nb. -/
structure OneG (w0 W : World) (g nb : Nat) (st : Mill.St) : Prop where
  m : MillTv W g nb none [] st
  t : Tabs W
  b : Below w0.heap.size w0 W
  two : 2 ≤ w0.heap.size
  gs : w0.heap.size ≤ g ∧ w0.heap.size ≤ nb
theorem OneG.below {w0 W W' : World} {g nb : Nat} {st : Mill.St} (h : OneG w0 W g nb st) (hb : Below W.heap.size W W') : OneG w0 W' g nb st :=
  ⟨h.m.below hb, h.t.below hb h.t.2.2, h.b.trans (hb.mono h.b.size), h.two, h.gs⟩
theorem OneG.step {w0 W W' : World} {g nb : Nat} {st st' : Mill.St} (h : OneG w0 W g nb st) (hm : MillTv W' g nb none [] st') (hv : Mv W W' [g, nb]) : OneG w0 W' g nb st' := by
  have h2 := h.two
  have hg := h.gs
  exact ⟨hm, hv.tabs2 h.t (by omega) (by omega), slip_tied hv hg.1 hg.2 h.b.size h.b, h2, hg⟩
theorem OneG.two1 {w0 W : World} {g nb : Nat} {st : Mill.St} (h : OneG w0 W g nb st) : 2 ≤ g := by have := h.two; have := h.gs; omega
theorem OneG.two2 {w0 W : World} {g nb : Nat} {st : Mill.St} (h : OneG w0 W g nb st) : 2 ≤ nb := by have := h.two; have := h.gs; omega
theorem OneG.only {w0 W W' : World} {g nb k : Nat} {st : Mill.St} (h : OneG w0 W g nb st) (ho : Only W W' k) (hk : w0.heap.size ≤ k) (h1 : k ≠ g) (h2 : k ≠ nb) : OneG w0 W' g nb st := by
  have hv := Mv.of_only ho (s := [k]) (by simp)
  have h2 := h.two
  refine ⟨h.m.mv hv ?_ ?_ (fun b hb => by cases hb), hv.tabs h.t (fun x hx => ?_), hv.below h.b h.b.size (fun x hx => ?_), h.two, h.gs⟩
  · simp only [List.mem_cons, List.not_mem_nil, or_false]; omega
  · simp only [List.mem_cons, List.not_mem_nil, or_false]; omega
  · simp only [List.mem_cons, List.not_mem_nil, or_false] at hx; omega
  · simp only [List.mem_cons, List.not_mem_nil, or_false] at hx; omega
theorem OneG.drew {w0 W : World} {g nb : Nat} {st : Mill.St} (h : OneG w0 W g nb st) : OneG w0 W.drew g nb st := ⟨h.m, h.t, h.b.drew, h.two, h.gs⟩
theorem OneG.awake {w0 W : World} {g nb : Nat} {st : Mill.St} (h : OneG w0 W g nb st) : Calls Tryd.prog 18 #[] W fun e w' => e = .returned (.bool true) ∧ Below W.heap.size W w' := awakePlg_any W h.t

set_option maxHeartbeats 4000000 in
set_option maxRecDepth 100000 in
theorem pledgeKepts_any (key0 id0 name0 pl0 c0 : List UInt8) (er : Bool) (w : World) (hT : Tabs w) :
    Calls Tryd.prog 7 #[.string (S key0), .string (S id0), .agg #[.string (S name0), .string (S pl0), .string (S c0), .bool er]] w fun e w' => e = .returned (.bool true) ∧ Below w.heap.size w w' := by
  have hC1 := fun W => plgCut_any key0 W
  have hC2 := fun W => plgCut_any id0 W
  have hC3 := fun W => plgCut_any name0 W
  have hC4 := fun W => plgCut_any c0 W
  have hC5 := fun W => plgCut_any pl0 W
  have h1 := take300 key0; have h2 := take300 id0; have h3 := take300 name0; have h4 := take300 c0
  generalize key0.take 300 = key at hC1 h1
  generalize id0.take 300 = id at hC2 h2
  generalize name0.take 300 = name at hC3 h3
  generalize c0.take 300 = c at hC4 h4
  generalize pl0.take 300 = pl at hC5
  have hKe := fun W st (h : OneG w W (w.heap.size + 1 + 1) (w.heap.size + 1) st) (hs : st.sums ≤ 10) => plgKept_any _ _ none [] st W key id name pl c er h.m (by omega) (by omega) (by omega) (by omega) (by omega) rfl h.t h.two1 h.two2
  have hOp := fun W st (h : OneG w W (w.heap.size + 1 + 1) (w.heap.size + 1) st) => plgOpen_any _ _ [] st W key name c h.m.at (by omega) (by omega) (by omega) rfl h.t
  have hol := Plg.opened_len [] rfl key name c
  have hks : ∀ st, (Plg.keptS [] key id name c er st).sums ≤ st.sums + 1 := fun st => by
    unfold Plg.keptS
    split
    · omega
    · split
      · omega
      · rw [Mill.step_sums]; omega
  unfold Plg.keptV at hKe
  generalize Plg.keptS [] key id name c er = ks at hKe hks
  generalize Plg.opened [] key name c = o at hKe hOp hol
  obtain ⟨x, y, is⟩ := o
  dsimp only at hol hKe
  unfold OpenPost at hOp
  dsimp only at hOp
  have hOf := fun W st (h : OneG w W (w.heap.size + 1 + 1) (w.heap.size + 1) st) (hs : st.sums ≤ 10) => plgOf_any _ _ none [] st W id name x y h.m (by omega) (by omega) (by omega) (by omega) (by omega) rfl h.t h.two1
  generalize Mill.hash [] (Plg.of id name x y) = p at hKe hOf
  generalize Plg.of id name x y = ot at hOf
  generalize Mill.step [] = step at hOf
  unfold KeptPost at hKe
  have HC := Lib.hid (And.intro hC1 (And.intro hC2 (And.intro hC3 (And.intro hC4 hC5)))); clear hC1 hC2 hC3 hC4 hC5
  have HKS := Lib.hid hks; clear hks
  have HOP := Lib.hid hOp; clear hOp
  have HOF := Lib.hid hOf; clear hOf
  have HT := Lib.hid hT; clear hT hol h1 h2 h3 h4
  have hu := (Below.refl _ w).alloc (Nat.le_refl _) (.cells #[.string (S name0), .string (S pl0), .string (S c0), .bool er] 38)
  have hA := Has.made w 38 #[.string (S name0), .string (S pl0), .string (S c0), .bool er]
  have hsz : (w.alloc (.cells #[.string (S name0), .string (S pl0), .string (S c0), .bool er] 38)).heap.size = w.heap.size + 1 := by simp
  have hN := newMill_tv (w.alloc (.cells #[.string (S name0), .string (S pl0), .string (S c0), .bool er] 38))
  rw [hsz] at hN
  have HN := Lib.hid hN; clear hN
  have hTA := HT.out.below hu HT.out.2.2
  have HA := Lib.hid (And.intro hu (And.intro hA hTA)); clear hu hA hTA
  by_cases hwant : er = false ∧ is = true ∧ p = pl
  · obtain ⟨rfl, rfl, rfl⟩ := hwant
    rw [if_neg (show ¬ (false = true) by decide), if_neg (show ¬ (true = false) by decide), if_neg (show ¬ (p ≠ p) from fun h => h rfl)] at hKe
    dsimp only at hKe
    have hpe : (p == p) = true := by simp
    have hxe : (x == x) = true := by simp
    have hye : (y == y) = true := by simp
    have HK := Lib.hid hKe; clear hKe
    go_enter Tryd.func7, Tryd.ntmps7
    go_wp2_with fail
    generalize w.alloc (.cells #[.string (S name0), .string (S pl0), .string (S c0), .bool false] 38) = W0 at HN HA hsz ⊢
    refine (HN.out).mono ?_
    rintro r1 w1 ⟨rfl, hM1, hb1, hs1⟩
    have hx2 := HA.out.2.2.2.2
    have H := Lib.hid (And.intro (show OneG w w1 (w.heap.size + 1 + 1) (w.heap.size + 1) Mill.fresh from ⟨hM1, HA.out.2.2.below hb1 (by omega), HA.out.1.trans (hb1.mono (by omega)), HT.out.2.2, by omega⟩) (HA.out.2.1.below hb1 (by omega)))
    clear hM1 hb1 hs1 hx2
    have hs0 : Mill.fresh.sums = 0 := rfl
    generalize hfr : Mill.fresh = fr at H hs0
    clear hfr
    go_wp2_with fail
    refine (HC.out.1 _).mono ?_
    rintro r w3 ⟨rfl, rfl⟩
    go_wp2_with fail
    refine (HC.out.2.1 _).mono ?_
    rintro r w3 ⟨rfl, rfl⟩
    have c0' := H.out.2.cell 0; have f0' := H.out.2.free 0
    go_wp2_with fail
    refine (HC.out.2.2.1 _).mono ?_
    rintro r w3 ⟨rfl, rfl⟩
    go_upto_region 5 with (fail)
    have ho := Only.set w1 w.heap.size 0 (.string (S name))
    replace H := Lib.hid (And.intro (H.out.1.only ho (Nat.le_refl _) (by omega) (by omega)) (show Has _ w.heap.size 38 #[.string (S name), .string (S pl0), .string (S c0), .bool false] from H.out.2.set 0 (.string (S name)))); clear ho c0' f0'
    generalize w1.setCell ⟨w.heap.size, 0, none⟩ (.string (S name)) = W1 at H ⊢
    have c2' := H.out.2.cell 2; have f2' := H.out.2.free 2
    go_wp2_with fail
    refine (HC.out.2.2.2.1 _).mono ?_
    rintro r w3 ⟨rfl, rfl⟩
    go_upto_region 6 with (fail)
    have ho := Only.set W1 w.heap.size 2 (.string (S c))
    replace H := Lib.hid (And.intro (H.out.1.only ho (Nat.le_refl _) (by omega) (by omega)) (show Has _ w.heap.size 38 #[.string (S name), .string (S pl0), .string (S c), .bool false] from H.out.2.set 2 (.string (S c)))); clear ho c2' f2'
    generalize W1.setCell ⟨w.heap.size, 2, none⟩ (.string (S c)) = W2 at H ⊢
    have c1' := H.out.2.cell 1; have f1' := H.out.2.free 1
    go_wp2_with fail
    refine (HC.out.2.2.2.2 _).mono ?_
    rintro r w3 ⟨rfl, rfl⟩
    go_upto_region 7 with (fail)
    have ho := Only.set W2 w.heap.size 1 (.string (S p))
    replace H := Lib.hid (And.intro (H.out.1.only ho (Nat.le_refl _) (by omega) (by omega)) (show Has _ w.heap.size 38 #[.string (S name), .string (S p), .string (S c), .bool false] from H.out.2.set 1 (.string (S p)))); clear ho c1' f1'
    generalize W2.setCell ⟨w.heap.size, 1, none⟩ (.string (S p)) = W3 at H ⊢
    have c0' := H.out.2.cell 0; have c1' := H.out.2.cell 1; have c2' := H.out.2.cell 2; have c3' := H.out.2.cell 3
    go_wp2_with fail
    refine (HK.out _ _ H.out.1 (by omega)).mono ?_
    rintro r w4 ⟨rfl, hm, hv⟩
    replace H := Lib.hid (And.intro (H.out.1.step hm hv) (hv.has H.out.2 (by simp only [List.mem_cons, List.not_mem_nil, or_false]; omega))); clear hm hv c0' c1' c2' c3'
    have hs1 : (ks fr).sums ≤ 1 := by have := HKS.out fr; omega
    generalize ks fr = st1 at H hs1
    have c0' := H.out.2.cell 0; have c1' := H.out.2.cell 1; have c2' := H.out.2.cell 2; have c3' := H.out.2.cell 3
    go_wp2_with fail
    refine (HOP.out _ _ H.out.1).mono ?_
    rintro r w5 ⟨rfl, hb⟩
    replace H := Lib.hid (And.intro (H.out.1.below hb) (H.out.2.below hb H.out.2.lt)); clear hb c0' c1' c2' c3'
    go_upto_region 9 with (fail)
    replace H := Lib.hid (And.intro H.out.1.drew (show Has w5.drew w.heap.size 38 #[.string (S name), .string (S p), .string (S c), .bool false] from H.out.2))
    have hx : SLies w.heap.size name p c false w5.drew := ⟨H.out.2.cell 0, H.out.2.cell 1, H.out.2.cell 2, H.out.2.cell 3⟩
    refine wp_region_held_drew (S := SLies w.heap.size name p c false) (by kernel_rfl) hx (fun hHeld => ?_)
    first
    | (refine take_wanted (i := 0) (v := ?_) rfl rfl (by kernel_rfl) (by kernel_rfl) (by kernel_rfl) (fun _ _ _ h => h) (by rfl) (by assumption) ?_ ?_; rotate_left; (focus (intro w hSw; (try dsimp only at hSw); go_simp; first | done | with_reducible rfl)); (simp only [Act.at, List.setIfInBounds_toArray, List.set_cons_zero, List.set_cons_succ]))
    | (refine take_unwanted (i := 0) rfl rfl (by kernel_rfl) (by kernel_rfl) (by kernel_rfl) (fun _ _ _ h => h) (by rfl) (by assumption) ?_; (simp only [Act.at, List.setIfInBounds_toArray, List.set_cons_zero, List.set_cons_succ]))
    first
    | (refine take_wanted (i := 1) (v := ?_) rfl rfl (by kernel_rfl) (by kernel_rfl) (by kernel_rfl) (fun _ _ _ h => h) (by rfl) (by assumption) ?_ ?_; rotate_left; (focus (intro w hSw; (try dsimp only at hSw); go_simp; first | done | with_reducible rfl)); (simp only [Act.at, List.setIfInBounds_toArray, List.set_cons_zero, List.set_cons_succ]))
    | (refine take_unwanted (i := 1) rfl rfl (by kernel_rfl) (by kernel_rfl) (by kernel_rfl) (fun _ _ _ h => h) (by rfl) (by assumption) ?_; (simp only [Act.at, List.setIfInBounds_toArray, List.set_cons_zero, List.set_cons_succ]))
    first
    | (refine take_wanted (i := 2) (v := ?_) rfl rfl (by kernel_rfl) (by kernel_rfl) (by kernel_rfl) (fun _ _ _ h => h) (by rfl) (by assumption) ?_ ?_; rotate_left; (focus (intro w hSw; (try dsimp only at hSw); go_simp; first | done | with_reducible rfl)); (simp only [Act.at, List.setIfInBounds_toArray, List.set_cons_zero, List.set_cons_succ]))
    | (refine take_unwanted (i := 2) rfl rfl (by kernel_rfl) (by kernel_rfl) (by kernel_rfl) (fun _ _ _ h => h) (by rfl) (by assumption) ?_; (simp only [Act.at, List.setIfInBounds_toArray, List.set_cons_zero, List.set_cons_succ]))
    first
    | (refine take_wanted (i := 3) (v := ?_) rfl rfl (by kernel_rfl) (by kernel_rfl) (by kernel_rfl) (fun _ _ _ h => h) (by rfl) (by assumption) ?_ ?_; rotate_left; (focus (intro w hSw; (try dsimp only at hSw); go_simp; first | done | with_reducible rfl)); (simp only [Act.at, List.setIfInBounds_toArray, List.set_cons_zero, List.set_cons_succ]))
    | (refine take_unwanted (i := 3) rfl rfl (by kernel_rfl) (by kernel_rfl) (by kernel_rfl) (fun _ _ _ h => h) (by rfl) (by assumption) ?_; (simp only [Act.at, List.setIfInBounds_toArray, List.set_cons_zero, List.set_cons_succ]))
    first
    | (refine take_wanted (i := 4) (v := ?_) rfl rfl (by kernel_rfl) (by kernel_rfl) (by kernel_rfl) (fun _ _ _ h => h) (by rfl) (by assumption) ?_ ?_; rotate_left; (focus (intro w hSw; (try dsimp only at hSw); go_simp; first | done | with_reducible rfl)); (simp only [Act.at, List.setIfInBounds_toArray, List.set_cons_zero, List.set_cons_succ]))
    | (refine take_unwanted (i := 4) rfl rfl (by kernel_rfl) (by kernel_rfl) (by kernel_rfl) (fun _ _ _ h => h) (by rfl) (by assumption) ?_; (simp only [Act.at, List.setIfInBounds_toArray, List.set_cons_zero, List.set_cons_succ]))
    first
    | (refine take_wanted (i := 5) (v := ?_) rfl rfl (by kernel_rfl) (by kernel_rfl) (by kernel_rfl) (fun _ _ _ h => h) (by rfl) (by assumption) ?_ ?_; rotate_left; (focus (intro w hSw; (try dsimp only at hSw); go_simp; first | done | with_reducible rfl)); (simp only [Act.at, List.setIfInBounds_toArray, List.set_cons_zero, List.set_cons_succ]))
    | (refine take_unwanted (i := 5) rfl rfl (by kernel_rfl) (by kernel_rfl) (by kernel_rfl) (fun _ _ _ h => h) (by rfl) (by assumption) ?_; (simp only [Act.at, List.setIfInBounds_toArray, List.set_cons_zero, List.set_cons_succ]))
    first
    | (refine take_wanted (i := 6) (v := ?_) rfl rfl (by kernel_rfl) (by kernel_rfl) (by kernel_rfl) (fun _ _ _ h => h) (by rfl) (by assumption) ?_ ?_; rotate_left; (focus (intro w hSw; (try dsimp only at hSw); go_simp; first | done | with_reducible rfl)); (simp only [Act.at, List.setIfInBounds_toArray, List.set_cons_zero, List.set_cons_succ]))
    | (refine take_unwanted (i := 6) rfl rfl (by kernel_rfl) (by kernel_rfl) (by kernel_rfl) (fun _ _ _ h => h) (by rfl) (by assumption) ?_; (simp only [Act.at, List.setIfInBounds_toArray, List.set_cons_zero, List.set_cons_succ]))
    first
    | (refine take_wanted (i := 7) (v := ?_) rfl rfl (by kernel_rfl) (by kernel_rfl) (by kernel_rfl) (fun _ _ _ h => h) (by rfl) (by assumption) ?_ ?_; rotate_left; (focus (intro w hSw; (try dsimp only at hSw); go_simp; first | done | with_reducible rfl)); (simp only [Act.at, List.setIfInBounds_toArray, List.set_cons_zero, List.set_cons_succ]))
    | (refine take_unwanted (i := 7) rfl rfl (by kernel_rfl) (by kernel_rfl) (by kernel_rfl) (fun _ _ _ h => h) (by rfl) (by assumption) ?_; (simp only [Act.at, List.setIfInBounds_toArray, List.set_cons_zero, List.set_cons_succ]))
    first
    | (refine take_wanted (i := 8) (v := ?_) rfl rfl (by kernel_rfl) (by kernel_rfl) (by kernel_rfl) (fun _ _ _ h => h) (by rfl) (by assumption) ?_ ?_; rotate_left; (focus (intro w hSw; (try dsimp only at hSw); go_simp; first | done | with_reducible rfl)); (simp only [Act.at, List.setIfInBounds_toArray, List.set_cons_zero, List.set_cons_succ]))
    | (refine take_unwanted (i := 8) rfl rfl (by kernel_rfl) (by kernel_rfl) (by kernel_rfl) (fun _ _ _ h => h) (by rfl) (by assumption) ?_; (simp only [Act.at, List.setIfInBounds_toArray, List.set_cons_zero, List.set_cons_succ]))
    first
    | (refine take_wanted (i := 9) (v := ?_) rfl rfl (by kernel_rfl) (by kernel_rfl) (by kernel_rfl) (fun _ _ _ h => h) (by rfl) (by assumption) ?_ ?_; rotate_left; (focus (intro w hSw; (try dsimp only at hSw); go_simp; first | done | with_reducible rfl)); (simp only [Act.at, List.setIfInBounds_toArray, List.set_cons_zero, List.set_cons_succ]))
    | (refine take_unwanted (i := 9) rfl rfl (by kernel_rfl) (by kernel_rfl) (by kernel_rfl) (fun _ _ _ h => h) (by rfl) (by assumption) ?_; (simp only [Act.at, List.setIfInBounds_toArray, List.set_cons_zero, List.set_cons_succ]))
    first
    | (refine take_wanted (i := 10) (v := ?_) rfl rfl (by kernel_rfl) (by kernel_rfl) (by kernel_rfl) (fun _ _ _ h => h) (by rfl) (by assumption) ?_ ?_; rotate_left; (focus (intro w hSw; (try dsimp only at hSw); go_simp; first | done | with_reducible rfl)); (simp only [Act.at, List.setIfInBounds_toArray, List.set_cons_zero, List.set_cons_succ]))
    | (refine take_unwanted (i := 10) rfl rfl (by kernel_rfl) (by kernel_rfl) (by kernel_rfl) (fun _ _ _ h => h) (by rfl) (by assumption) ?_; (simp only [Act.at, List.setIfInBounds_toArray, List.set_cons_zero, List.set_cons_succ]))
    first
    | (refine take_wanted (i := 11) (v := ?_) rfl rfl (by kernel_rfl) (by kernel_rfl) (by kernel_rfl) (fun _ _ _ h => h) (by rfl) (by assumption) ?_ ?_; rotate_left; (focus (intro w hSw; (try dsimp only at hSw); go_simp; first | done | with_reducible rfl)); (simp only [Act.at, List.setIfInBounds_toArray, List.set_cons_zero, List.set_cons_succ]))
    | (refine take_unwanted (i := 11) rfl rfl (by kernel_rfl) (by kernel_rfl) (by kernel_rfl) (fun _ _ _ h => h) (by rfl) (by assumption) ?_; (simp only [Act.at, List.setIfInBounds_toArray, List.set_cons_zero, List.set_cons_succ]))
    first
    | (refine take_wanted (i := 12) (v := ?_) rfl rfl (by kernel_rfl) (by kernel_rfl) (by kernel_rfl) (fun _ _ _ h => h) (by rfl) (by assumption) ?_ ?_; rotate_left; (focus (intro w hSw; (try dsimp only at hSw); go_simp; first | done | with_reducible rfl)); (simp only [Act.at, List.setIfInBounds_toArray, List.set_cons_zero, List.set_cons_succ]))
    | (refine take_unwanted (i := 12) rfl rfl (by kernel_rfl) (by kernel_rfl) (by kernel_rfl) (fun _ _ _ h => h) (by rfl) (by assumption) ?_; (simp only [Act.at, List.setIfInBounds_toArray, List.set_cons_zero, List.set_cons_succ]))
    first
    | (refine take_wanted (i := 14) (v := ?_) rfl rfl (by kernel_rfl) (by kernel_rfl) (by kernel_rfl) (fun _ _ _ h => h) (by rfl) (by assumption) ?_ ?_; rotate_left; (focus (intro w hSw; (try dsimp only at hSw); go_simp; first | done | with_reducible rfl)); (simp only [Act.at, List.setIfInBounds_toArray, List.set_cons_zero, List.set_cons_succ]))
    | (refine take_unwanted (i := 14) rfl rfl (by kernel_rfl) (by kernel_rfl) (by kernel_rfl) (fun _ _ _ h => h) (by rfl) (by assumption) ?_; (simp only [Act.at, List.setIfInBounds_toArray, List.set_cons_zero, List.set_cons_succ]))
    first
    | (refine take_wanted (i := 15) (v := ?_) rfl rfl (by kernel_rfl) (by kernel_rfl) (by kernel_rfl) (fun _ _ _ h => h) (by rfl) (by assumption) ?_ ?_; rotate_left; (focus (intro w hSw; (try dsimp only at hSw); go_simp; first | done | with_reducible rfl)); (simp only [Act.at, List.setIfInBounds_toArray, List.set_cons_zero, List.set_cons_succ]))
    | (refine take_unwanted (i := 15) rfl rfl (by kernel_rfl) (by kernel_rfl) (by kernel_rfl) (fun _ _ _ h => h) (by rfl) (by assumption) ?_; (simp only [Act.at, List.setIfInBounds_toArray, List.set_cons_zero, List.set_cons_succ]))
    refine take_call (i := 13) (by kernel_rfl) rfl rfl (by rfl) (fun K hK => ?_)
    go_simp
    refine (HOF.out _ _ H.out.1 (by omega)).mono ?_
    rintro r w6 ⟨rfl, hm, hv⟩
    replace H := Lib.hid (And.intro (H.out.1.step hm hv) (hv.has H.out.2 (by simp only [List.mem_cons, List.not_mem_nil, or_false]; omega))); clear hm hv hx
    have hx : SLies w.heap.size name p c false w6 := ⟨H.out.2.cell 0, H.out.2.cell 1, H.out.2.cell 2, H.out.2.cell 3⟩
    refine hK.out _ _ hx (fun hHeld => ?_)
    clear hK K
    try simp only [Act.put, List.setIfInBounds_toArray, List.set_cons_zero, List.set_cons_succ]
    first
    | (refine take_wanted (i := 16) (v := ?_) rfl rfl (by kernel_rfl) (by kernel_rfl) (by kernel_rfl) (fun _ _ _ h => h) (by rfl) (by assumption) ?_ ?_; rotate_left; (focus (intro w hSw; (try dsimp only at hSw); go_simp; first | done | with_reducible rfl)); (simp only [Act.at, List.setIfInBounds_toArray, List.set_cons_zero, List.set_cons_succ]))
    | (refine take_unwanted (i := 16) rfl rfl (by kernel_rfl) (by kernel_rfl) (by kernel_rfl) (fun _ _ _ h => h) (by rfl) (by assumption) ?_; (simp only [Act.at, List.setIfInBounds_toArray, List.set_cons_zero, List.set_cons_succ]))
    first
    | (refine take_wanted (i := 17) (v := ?_) rfl rfl (by kernel_rfl) (by kernel_rfl) (by kernel_rfl) (fun _ _ _ h => h) (by rfl) (by assumption) ?_ ?_; rotate_left; (focus (intro w hSw; (try dsimp only at hSw); go_simp; first | done | with_reducible rfl)); (simp only [Act.at, List.setIfInBounds_toArray, List.set_cons_zero, List.set_cons_succ]))
    | (refine take_unwanted (i := 17) rfl rfl (by kernel_rfl) (by kernel_rfl) (by kernel_rfl) (fun _ _ _ h => h) (by rfl) (by assumption) ?_; (simp only [Act.at, List.setIfInBounds_toArray, List.set_cons_zero, List.set_cons_succ]))
    first
    | (refine take_wanted (i := 18) (v := ?_) rfl rfl (by kernel_rfl) (by kernel_rfl) (by kernel_rfl) (fun _ _ _ h => h) (by rfl) (by assumption) ?_ ?_; rotate_left; (focus (intro w hSw; (try dsimp only at hSw); go_simp; first | done | with_reducible rfl)); (simp only [Act.at, List.setIfInBounds_toArray, List.set_cons_zero, List.set_cons_succ]))
    | (refine take_unwanted (i := 18) rfl rfl (by kernel_rfl) (by kernel_rfl) (by kernel_rfl) (fun _ _ _ h => h) (by rfl) (by assumption) ?_; (simp only [Act.at, List.setIfInBounds_toArray, List.set_cons_zero, List.set_cons_succ]))
    refine wpAnyH_done (by kernel_rfl) ?_ _
    go_wp2_with fail
    refine (H.out.1.awake).mono ?_
    rintro r w7 ⟨rfl, hb⟩
    go_wp2_with fail
    go_ret
    exact ⟨rfl, (H.out.1.below hb).b⟩
  · have hv : (if er = true then (([], [], false) : List UInt8 × List UInt8 × Bool) else if is = false then ([], [], false) else if p ≠ pl then ([], [], false) else (x, y, is)) = ([], [], false) := by
      split
      · rfl
      · split
        · rfl
        · split
          · rfl
          · rename_i h1 h2 h3
            exact absurd ⟨by simpa using h1, by simpa using h2, by simpa using h3⟩ hwant
    rw [hv] at hKe
    dsimp only at hKe
    clear hv
    have HK := Lib.hid hKe; clear hKe
    go_enter Tryd.func7, Tryd.ntmps7
    go_wp2_with fail
    generalize w.alloc (.cells #[.string (S name0), .string (S pl0), .string (S c0), .bool er] 38) = W0 at HN HA hsz ⊢
    refine (HN.out).mono ?_
    rintro r1 w1 ⟨rfl, hM1, hb1, hs1⟩
    have hx2 := HA.out.2.2.2.2
    have H := Lib.hid (And.intro (show OneG w w1 (w.heap.size + 1 + 1) (w.heap.size + 1) Mill.fresh from ⟨hM1, HA.out.2.2.below hb1 (by omega), HA.out.1.trans (hb1.mono (by omega)), HT.out.2.2, by omega⟩) (HA.out.2.1.below hb1 (by omega)))
    clear hM1 hb1 hs1 hx2
    have hs0 : Mill.fresh.sums = 0 := rfl
    generalize hfr : Mill.fresh = fr at H hs0
    clear hfr
    go_wp2_with fail
    refine (HC.out.1 _).mono ?_
    rintro r w3 ⟨rfl, rfl⟩
    go_wp2_with fail
    refine (HC.out.2.1 _).mono ?_
    rintro r w3 ⟨rfl, rfl⟩
    have c0' := H.out.2.cell 0; have f0' := H.out.2.free 0
    go_wp2_with fail
    refine (HC.out.2.2.1 _).mono ?_
    rintro r w3 ⟨rfl, rfl⟩
    go_upto_region 5 with (fail)
    have ho := Only.set w1 w.heap.size 0 (.string (S name))
    replace H := Lib.hid (And.intro (H.out.1.only ho (Nat.le_refl _) (by omega) (by omega)) (show Has _ w.heap.size 38 #[.string (S name), .string (S pl0), .string (S c0), .bool er] from H.out.2.set 0 (.string (S name)))); clear ho c0' f0'
    generalize w1.setCell ⟨w.heap.size, 0, none⟩ (.string (S name)) = W1 at H ⊢
    have c2' := H.out.2.cell 2; have f2' := H.out.2.free 2
    go_wp2_with fail
    refine (HC.out.2.2.2.1 _).mono ?_
    rintro r w3 ⟨rfl, rfl⟩
    go_upto_region 6 with (fail)
    have ho := Only.set W1 w.heap.size 2 (.string (S c))
    replace H := Lib.hid (And.intro (H.out.1.only ho (Nat.le_refl _) (by omega) (by omega)) (show Has _ w.heap.size 38 #[.string (S name), .string (S pl0), .string (S c), .bool er] from H.out.2.set 2 (.string (S c)))); clear ho c2' f2'
    generalize W1.setCell ⟨w.heap.size, 2, none⟩ (.string (S c)) = W2 at H ⊢
    have c1' := H.out.2.cell 1; have f1' := H.out.2.free 1
    go_wp2_with fail
    refine (HC.out.2.2.2.2 _).mono ?_
    rintro r w3 ⟨rfl, rfl⟩
    go_upto_region 7 with (fail)
    have ho := Only.set W2 w.heap.size 1 (.string (S pl))
    replace H := Lib.hid (And.intro (H.out.1.only ho (Nat.le_refl _) (by omega) (by omega)) (show Has _ w.heap.size 38 #[.string (S name), .string (S pl), .string (S c), .bool er] from H.out.2.set 1 (.string (S pl)))); clear ho c1' f1'
    generalize W2.setCell ⟨w.heap.size, 1, none⟩ (.string (S pl)) = W3 at H ⊢
    have c0' := H.out.2.cell 0; have c1' := H.out.2.cell 1; have c2' := H.out.2.cell 2; have c3' := H.out.2.cell 3
    go_wp2_with fail
    refine (HK.out _ _ H.out.1 (by omega)).mono ?_
    rintro r w4 ⟨rfl, hm, hv⟩
    replace H := Lib.hid (And.intro (H.out.1.step hm hv) (hv.has H.out.2 (by simp only [List.mem_cons, List.not_mem_nil, or_false]; omega))); clear hm hv c0' c1' c2' c3'
    have hs1 : (ks fr).sums ≤ 1 := by have := HKS.out fr; omega
    generalize ks fr = st1 at H hs1
    have c0' := H.out.2.cell 0; have c1' := H.out.2.cell 1; have c2' := H.out.2.cell 2; have c3' := H.out.2.cell 3
    go_wp2_with fail
    refine (HOP.out _ _ H.out.1).mono ?_
    rintro r w5 ⟨rfl, hb⟩
    replace H := Lib.hid (And.intro (H.out.1.below hb) (H.out.2.below hb H.out.2.lt)); clear hb c0' c1' c2' c3'
    go_upto_region 9 with (fail)
    by_cases hbe : er = false ∧ is = true
    · obtain ⟨rfl, rfl⟩ := hbe
      have hpe : (p == pl) = false := by
        rw [Bool.eq_false_iff]; intro h; exact hwant ⟨rfl, rfl, by simpa using h⟩
      clear hwant
      replace H := Lib.hid (And.intro H.out.1.drew (show Has w5.drew w.heap.size 38 #[.string (S name), .string (S pl), .string (S c), .bool false] from H.out.2))
      have hx : SLies w.heap.size name pl c false w5.drew := ⟨H.out.2.cell 0, H.out.2.cell 1, H.out.2.cell 2, H.out.2.cell 3⟩
      refine wp_region_held_drew (S := SLies w.heap.size name pl c false) (by kernel_rfl) hx (fun hHeld => ?_)
      first
      | (refine take_wanted (i := 0) (v := ?_) rfl rfl (by kernel_rfl) (by kernel_rfl) (by kernel_rfl) (fun _ _ _ h => h) (by rfl) (by assumption) ?_ ?_; rotate_left; (focus (intro w hSw; (try dsimp only at hSw); go_simp; first | done | with_reducible rfl)); (simp only [Act.at, List.setIfInBounds_toArray, List.set_cons_zero, List.set_cons_succ]))
      | (refine take_unwanted (i := 0) rfl rfl (by kernel_rfl) (by kernel_rfl) (by kernel_rfl) (fun _ _ _ h => h) (by rfl) (by assumption) ?_; (simp only [Act.at, List.setIfInBounds_toArray, List.set_cons_zero, List.set_cons_succ]))
      first
      | (refine take_wanted (i := 1) (v := ?_) rfl rfl (by kernel_rfl) (by kernel_rfl) (by kernel_rfl) (fun _ _ _ h => h) (by rfl) (by assumption) ?_ ?_; rotate_left; (focus (intro w hSw; (try dsimp only at hSw); go_simp; first | done | with_reducible rfl)); (simp only [Act.at, List.setIfInBounds_toArray, List.set_cons_zero, List.set_cons_succ]))
      | (refine take_unwanted (i := 1) rfl rfl (by kernel_rfl) (by kernel_rfl) (by kernel_rfl) (fun _ _ _ h => h) (by rfl) (by assumption) ?_; (simp only [Act.at, List.setIfInBounds_toArray, List.set_cons_zero, List.set_cons_succ]))
      first
      | (refine take_wanted (i := 2) (v := ?_) rfl rfl (by kernel_rfl) (by kernel_rfl) (by kernel_rfl) (fun _ _ _ h => h) (by rfl) (by assumption) ?_ ?_; rotate_left; (focus (intro w hSw; (try dsimp only at hSw); go_simp; first | done | with_reducible rfl)); (simp only [Act.at, List.setIfInBounds_toArray, List.set_cons_zero, List.set_cons_succ]))
      | (refine take_unwanted (i := 2) rfl rfl (by kernel_rfl) (by kernel_rfl) (by kernel_rfl) (fun _ _ _ h => h) (by rfl) (by assumption) ?_; (simp only [Act.at, List.setIfInBounds_toArray, List.set_cons_zero, List.set_cons_succ]))
      first
      | (refine take_wanted (i := 3) (v := ?_) rfl rfl (by kernel_rfl) (by kernel_rfl) (by kernel_rfl) (fun _ _ _ h => h) (by rfl) (by assumption) ?_ ?_; rotate_left; (focus (intro w hSw; (try dsimp only at hSw); go_simp; first | done | with_reducible rfl)); (simp only [Act.at, List.setIfInBounds_toArray, List.set_cons_zero, List.set_cons_succ]))
      | (refine take_unwanted (i := 3) rfl rfl (by kernel_rfl) (by kernel_rfl) (by kernel_rfl) (fun _ _ _ h => h) (by rfl) (by assumption) ?_; (simp only [Act.at, List.setIfInBounds_toArray, List.set_cons_zero, List.set_cons_succ]))
      first
      | (refine take_wanted (i := 4) (v := ?_) rfl rfl (by kernel_rfl) (by kernel_rfl) (by kernel_rfl) (fun _ _ _ h => h) (by rfl) (by assumption) ?_ ?_; rotate_left; (focus (intro w hSw; (try dsimp only at hSw); go_simp; first | done | with_reducible rfl)); (simp only [Act.at, List.setIfInBounds_toArray, List.set_cons_zero, List.set_cons_succ]))
      | (refine take_unwanted (i := 4) rfl rfl (by kernel_rfl) (by kernel_rfl) (by kernel_rfl) (fun _ _ _ h => h) (by rfl) (by assumption) ?_; (simp only [Act.at, List.setIfInBounds_toArray, List.set_cons_zero, List.set_cons_succ]))
      first
      | (refine take_wanted (i := 5) (v := ?_) rfl rfl (by kernel_rfl) (by kernel_rfl) (by kernel_rfl) (fun _ _ _ h => h) (by rfl) (by assumption) ?_ ?_; rotate_left; (focus (intro w hSw; (try dsimp only at hSw); go_simp; first | done | with_reducible rfl)); (simp only [Act.at, List.setIfInBounds_toArray, List.set_cons_zero, List.set_cons_succ]))
      | (refine take_unwanted (i := 5) rfl rfl (by kernel_rfl) (by kernel_rfl) (by kernel_rfl) (fun _ _ _ h => h) (by rfl) (by assumption) ?_; (simp only [Act.at, List.setIfInBounds_toArray, List.set_cons_zero, List.set_cons_succ]))
      first
      | (refine take_wanted (i := 6) (v := ?_) rfl rfl (by kernel_rfl) (by kernel_rfl) (by kernel_rfl) (fun _ _ _ h => h) (by rfl) (by assumption) ?_ ?_; rotate_left; (focus (intro w hSw; (try dsimp only at hSw); go_simp; first | done | with_reducible rfl)); (simp only [Act.at, List.setIfInBounds_toArray, List.set_cons_zero, List.set_cons_succ]))
      | (refine take_unwanted (i := 6) rfl rfl (by kernel_rfl) (by kernel_rfl) (by kernel_rfl) (fun _ _ _ h => h) (by rfl) (by assumption) ?_; (simp only [Act.at, List.setIfInBounds_toArray, List.set_cons_zero, List.set_cons_succ]))
      first
      | (refine take_wanted (i := 7) (v := ?_) rfl rfl (by kernel_rfl) (by kernel_rfl) (by kernel_rfl) (fun _ _ _ h => h) (by rfl) (by assumption) ?_ ?_; rotate_left; (focus (intro w hSw; (try dsimp only at hSw); go_simp; first | done | with_reducible rfl)); (simp only [Act.at, List.setIfInBounds_toArray, List.set_cons_zero, List.set_cons_succ]))
      | (refine take_unwanted (i := 7) rfl rfl (by kernel_rfl) (by kernel_rfl) (by kernel_rfl) (fun _ _ _ h => h) (by rfl) (by assumption) ?_; (simp only [Act.at, List.setIfInBounds_toArray, List.set_cons_zero, List.set_cons_succ]))
      first
      | (refine take_wanted (i := 8) (v := ?_) rfl rfl (by kernel_rfl) (by kernel_rfl) (by kernel_rfl) (fun _ _ _ h => h) (by rfl) (by assumption) ?_ ?_; rotate_left; (focus (intro w hSw; (try dsimp only at hSw); go_simp; first | done | with_reducible rfl)); (simp only [Act.at, List.setIfInBounds_toArray, List.set_cons_zero, List.set_cons_succ]))
      | (refine take_unwanted (i := 8) rfl rfl (by kernel_rfl) (by kernel_rfl) (by kernel_rfl) (fun _ _ _ h => h) (by rfl) (by assumption) ?_; (simp only [Act.at, List.setIfInBounds_toArray, List.set_cons_zero, List.set_cons_succ]))
      first
      | (refine take_wanted (i := 9) (v := ?_) rfl rfl (by kernel_rfl) (by kernel_rfl) (by kernel_rfl) (fun _ _ _ h => h) (by rfl) (by assumption) ?_ ?_; rotate_left; (focus (intro w hSw; (try dsimp only at hSw); go_simp; first | done | with_reducible rfl)); (simp only [Act.at, List.setIfInBounds_toArray, List.set_cons_zero, List.set_cons_succ]))
      | (refine take_unwanted (i := 9) rfl rfl (by kernel_rfl) (by kernel_rfl) (by kernel_rfl) (fun _ _ _ h => h) (by rfl) (by assumption) ?_; (simp only [Act.at, List.setIfInBounds_toArray, List.set_cons_zero, List.set_cons_succ]))
      first
      | (refine take_wanted (i := 10) (v := ?_) rfl rfl (by kernel_rfl) (by kernel_rfl) (by kernel_rfl) (fun _ _ _ h => h) (by rfl) (by assumption) ?_ ?_; rotate_left; (focus (intro w hSw; (try dsimp only at hSw); go_simp; first | done | with_reducible rfl)); (simp only [Act.at, List.setIfInBounds_toArray, List.set_cons_zero, List.set_cons_succ]))
      | (refine take_unwanted (i := 10) rfl rfl (by kernel_rfl) (by kernel_rfl) (by kernel_rfl) (fun _ _ _ h => h) (by rfl) (by assumption) ?_; (simp only [Act.at, List.setIfInBounds_toArray, List.set_cons_zero, List.set_cons_succ]))
      first
      | (refine take_wanted (i := 11) (v := ?_) rfl rfl (by kernel_rfl) (by kernel_rfl) (by kernel_rfl) (fun _ _ _ h => h) (by rfl) (by assumption) ?_ ?_; rotate_left; (focus (intro w hSw; (try dsimp only at hSw); go_simp; first | done | with_reducible rfl)); (simp only [Act.at, List.setIfInBounds_toArray, List.set_cons_zero, List.set_cons_succ]))
      | (refine take_unwanted (i := 11) rfl rfl (by kernel_rfl) (by kernel_rfl) (by kernel_rfl) (fun _ _ _ h => h) (by rfl) (by assumption) ?_; (simp only [Act.at, List.setIfInBounds_toArray, List.set_cons_zero, List.set_cons_succ]))
      first
      | (refine take_wanted (i := 12) (v := ?_) rfl rfl (by kernel_rfl) (by kernel_rfl) (by kernel_rfl) (fun _ _ _ h => h) (by rfl) (by assumption) ?_ ?_; rotate_left; (focus (intro w hSw; (try dsimp only at hSw); go_simp; first | done | with_reducible rfl)); (simp only [Act.at, List.setIfInBounds_toArray, List.set_cons_zero, List.set_cons_succ]))
      | (refine take_unwanted (i := 12) rfl rfl (by kernel_rfl) (by kernel_rfl) (by kernel_rfl) (fun _ _ _ h => h) (by rfl) (by assumption) ?_; (simp only [Act.at, List.setIfInBounds_toArray, List.set_cons_zero, List.set_cons_succ]))
      first
      | (refine take_wanted (i := 14) (v := ?_) rfl rfl (by kernel_rfl) (by kernel_rfl) (by kernel_rfl) (fun _ _ _ h => h) (by rfl) (by assumption) ?_ ?_; rotate_left; (focus (intro w hSw; (try dsimp only at hSw); go_simp; first | done | with_reducible rfl)); (simp only [Act.at, List.setIfInBounds_toArray, List.set_cons_zero, List.set_cons_succ]))
      | (refine take_unwanted (i := 14) rfl rfl (by kernel_rfl) (by kernel_rfl) (by kernel_rfl) (fun _ _ _ h => h) (by rfl) (by assumption) ?_; (simp only [Act.at, List.setIfInBounds_toArray, List.set_cons_zero, List.set_cons_succ]))
      first
      | (refine take_wanted (i := 15) (v := ?_) rfl rfl (by kernel_rfl) (by kernel_rfl) (by kernel_rfl) (fun _ _ _ h => h) (by rfl) (by assumption) ?_ ?_; rotate_left; (focus (intro w hSw; (try dsimp only at hSw); go_simp; first | done | with_reducible rfl)); (simp only [Act.at, List.setIfInBounds_toArray, List.set_cons_zero, List.set_cons_succ]))
      | (refine take_unwanted (i := 15) rfl rfl (by kernel_rfl) (by kernel_rfl) (by kernel_rfl) (fun _ _ _ h => h) (by rfl) (by assumption) ?_; (simp only [Act.at, List.setIfInBounds_toArray, List.set_cons_zero, List.set_cons_succ]))
      refine take_call (i := 13) (by kernel_rfl) rfl rfl (by rfl) (fun K hK => ?_)
      go_simp
      refine (HOF.out _ _ H.out.1 (by omega)).mono ?_
      rintro r w6 ⟨rfl, hm, hv⟩
      replace H := Lib.hid (And.intro (H.out.1.step hm hv) (hv.has H.out.2 (by simp only [List.mem_cons, List.not_mem_nil, or_false]; omega))); clear hm hv hx
      have hx : SLies w.heap.size name pl c false w6 := ⟨H.out.2.cell 0, H.out.2.cell 1, H.out.2.cell 2, H.out.2.cell 3⟩
      refine hK.out _ _ hx (fun hHeld => ?_)
      clear hK K
      try simp only [Act.put, List.setIfInBounds_toArray, List.set_cons_zero, List.set_cons_succ]
      first
      | (refine take_wanted (i := 16) (v := ?_) rfl rfl (by kernel_rfl) (by kernel_rfl) (by kernel_rfl) (fun _ _ _ h => h) (by rfl) (by assumption) ?_ ?_; rotate_left; (focus (intro w hSw; (try dsimp only at hSw); go_simp; first | done | with_reducible rfl)); (simp only [Act.at, List.setIfInBounds_toArray, List.set_cons_zero, List.set_cons_succ]))
      | (refine take_unwanted (i := 16) rfl rfl (by kernel_rfl) (by kernel_rfl) (by kernel_rfl) (fun _ _ _ h => h) (by rfl) (by assumption) ?_; (simp only [Act.at, List.setIfInBounds_toArray, List.set_cons_zero, List.set_cons_succ]))
      first
      | (refine take_wanted (i := 17) (v := ?_) rfl rfl (by kernel_rfl) (by kernel_rfl) (by kernel_rfl) (fun _ _ _ h => h) (by rfl) (by assumption) ?_ ?_; rotate_left; (focus (intro w hSw; (try dsimp only at hSw); go_simp; first | done | with_reducible rfl)); (simp only [Act.at, List.setIfInBounds_toArray, List.set_cons_zero, List.set_cons_succ]))
      | (refine take_unwanted (i := 17) rfl rfl (by kernel_rfl) (by kernel_rfl) (by kernel_rfl) (fun _ _ _ h => h) (by rfl) (by assumption) ?_; (simp only [Act.at, List.setIfInBounds_toArray, List.set_cons_zero, List.set_cons_succ]))
      first
      | (refine take_wanted (i := 18) (v := ?_) rfl rfl (by kernel_rfl) (by kernel_rfl) (by kernel_rfl) (fun _ _ _ h => h) (by rfl) (by assumption) ?_ ?_; rotate_left; (focus (intro w hSw; (try dsimp only at hSw); go_simp; first | done | with_reducible rfl)); (simp only [Act.at, List.setIfInBounds_toArray, List.set_cons_zero, List.set_cons_succ]))
      | (refine take_unwanted (i := 18) rfl rfl (by kernel_rfl) (by kernel_rfl) (by kernel_rfl) (fun _ _ _ h => h) (by rfl) (by assumption) ?_; (simp only [Act.at, List.setIfInBounds_toArray, List.set_cons_zero, List.set_cons_succ]))
      refine wpAnyH_done (by kernel_rfl) ?_ _
      go_wp2_with fail
      refine (H.out.1.awake).mono ?_
      rintro r w7 ⟨rfl, hb⟩
      go_wp2_with fail
      go_ret
      exact ⟨rfl, (H.out.1.below hb).b⟩
    · clear hwant
      replace H := Lib.hid (And.intro H.out.1.drew (show Has w5.drew w.heap.size 38 #[.string (S name), .string (S pl), .string (S c), .bool er] from H.out.2))
      have hx : SLies w.heap.size name pl c er w5.drew := ⟨H.out.2.cell 0, H.out.2.cell 1, H.out.2.cell 2, H.out.2.cell 3⟩
      cases er
      case' false =>
        cases is
        case' true => exact absurd ⟨rfl, rfl⟩ hbe
      all_goals
        refine wp_region_held_drew (S := SLies w.heap.size name pl c _) (by kernel_rfl) hx (fun hHeld => ?_)
        first
        | (refine take_wanted (i := 0) (v := ?_) rfl rfl (by kernel_rfl) (by kernel_rfl) (by kernel_rfl) (fun _ _ _ h => h) (by rfl) (by assumption) ?_ ?_; rotate_left; (focus (intro w hSw; (try dsimp only at hSw); go_simp; first | done | with_reducible rfl)); (simp only [Act.at, List.setIfInBounds_toArray, List.set_cons_zero, List.set_cons_succ]))
        | (refine take_unwanted (i := 0) rfl rfl (by kernel_rfl) (by kernel_rfl) (by kernel_rfl) (fun _ _ _ h => h) (by rfl) (by assumption) ?_; (simp only [Act.at, List.setIfInBounds_toArray, List.set_cons_zero, List.set_cons_succ]))
        first
        | (refine take_wanted (i := 1) (v := ?_) rfl rfl (by kernel_rfl) (by kernel_rfl) (by kernel_rfl) (fun _ _ _ h => h) (by rfl) (by assumption) ?_ ?_; rotate_left; (focus (intro w hSw; (try dsimp only at hSw); go_simp; first | done | with_reducible rfl)); (simp only [Act.at, List.setIfInBounds_toArray, List.set_cons_zero, List.set_cons_succ]))
        | (refine take_unwanted (i := 1) rfl rfl (by kernel_rfl) (by kernel_rfl) (by kernel_rfl) (fun _ _ _ h => h) (by rfl) (by assumption) ?_; (simp only [Act.at, List.setIfInBounds_toArray, List.set_cons_zero, List.set_cons_succ]))
        first
        | (refine take_wanted (i := 2) (v := ?_) rfl rfl (by kernel_rfl) (by kernel_rfl) (by kernel_rfl) (fun _ _ _ h => h) (by rfl) (by assumption) ?_ ?_; rotate_left; (focus (intro w hSw; (try dsimp only at hSw); go_simp; first | done | with_reducible rfl)); (simp only [Act.at, List.setIfInBounds_toArray, List.set_cons_zero, List.set_cons_succ]))
        | (refine take_unwanted (i := 2) rfl rfl (by kernel_rfl) (by kernel_rfl) (by kernel_rfl) (fun _ _ _ h => h) (by rfl) (by assumption) ?_; (simp only [Act.at, List.setIfInBounds_toArray, List.set_cons_zero, List.set_cons_succ]))
        first
        | (refine take_wanted (i := 3) (v := ?_) rfl rfl (by kernel_rfl) (by kernel_rfl) (by kernel_rfl) (fun _ _ _ h => h) (by rfl) (by assumption) ?_ ?_; rotate_left; (focus (intro w hSw; (try dsimp only at hSw); go_simp; first | done | with_reducible rfl)); (simp only [Act.at, List.setIfInBounds_toArray, List.set_cons_zero, List.set_cons_succ]))
        | (refine take_unwanted (i := 3) rfl rfl (by kernel_rfl) (by kernel_rfl) (by kernel_rfl) (fun _ _ _ h => h) (by rfl) (by assumption) ?_; (simp only [Act.at, List.setIfInBounds_toArray, List.set_cons_zero, List.set_cons_succ]))
        first
        | (refine take_wanted (i := 4) (v := ?_) rfl rfl (by kernel_rfl) (by kernel_rfl) (by kernel_rfl) (fun _ _ _ h => h) (by rfl) (by assumption) ?_ ?_; rotate_left; (focus (intro w hSw; (try dsimp only at hSw); go_simp; first | done | with_reducible rfl)); (simp only [Act.at, List.setIfInBounds_toArray, List.set_cons_zero, List.set_cons_succ]))
        | (refine take_unwanted (i := 4) rfl rfl (by kernel_rfl) (by kernel_rfl) (by kernel_rfl) (fun _ _ _ h => h) (by rfl) (by assumption) ?_; (simp only [Act.at, List.setIfInBounds_toArray, List.set_cons_zero, List.set_cons_succ]))
        first
        | (refine take_wanted (i := 5) (v := ?_) rfl rfl (by kernel_rfl) (by kernel_rfl) (by kernel_rfl) (fun _ _ _ h => h) (by rfl) (by assumption) ?_ ?_; rotate_left; (focus (intro w hSw; (try dsimp only at hSw); go_simp; first | done | with_reducible rfl)); (simp only [Act.at, List.setIfInBounds_toArray, List.set_cons_zero, List.set_cons_succ]))
        | (refine take_unwanted (i := 5) rfl rfl (by kernel_rfl) (by kernel_rfl) (by kernel_rfl) (fun _ _ _ h => h) (by rfl) (by assumption) ?_; (simp only [Act.at, List.setIfInBounds_toArray, List.set_cons_zero, List.set_cons_succ]))
        first
        | (refine take_wanted (i := 6) (v := ?_) rfl rfl (by kernel_rfl) (by kernel_rfl) (by kernel_rfl) (fun _ _ _ h => h) (by rfl) (by assumption) ?_ ?_; rotate_left; (focus (intro w hSw; (try dsimp only at hSw); go_simp; first | done | with_reducible rfl)); (simp only [Act.at, List.setIfInBounds_toArray, List.set_cons_zero, List.set_cons_succ]))
        | (refine take_unwanted (i := 6) rfl rfl (by kernel_rfl) (by kernel_rfl) (by kernel_rfl) (fun _ _ _ h => h) (by rfl) (by assumption) ?_; (simp only [Act.at, List.setIfInBounds_toArray, List.set_cons_zero, List.set_cons_succ]))
        first
        | (refine take_wanted (i := 7) (v := ?_) rfl rfl (by kernel_rfl) (by kernel_rfl) (by kernel_rfl) (fun _ _ _ h => h) (by rfl) (by assumption) ?_ ?_; rotate_left; (focus (intro w hSw; (try dsimp only at hSw); go_simp; first | done | with_reducible rfl)); (simp only [Act.at, List.setIfInBounds_toArray, List.set_cons_zero, List.set_cons_succ]))
        | (refine take_unwanted (i := 7) rfl rfl (by kernel_rfl) (by kernel_rfl) (by kernel_rfl) (fun _ _ _ h => h) (by rfl) (by assumption) ?_; (simp only [Act.at, List.setIfInBounds_toArray, List.set_cons_zero, List.set_cons_succ]))
        first
        | (refine take_wanted (i := 8) (v := ?_) rfl rfl (by kernel_rfl) (by kernel_rfl) (by kernel_rfl) (fun _ _ _ h => h) (by rfl) (by assumption) ?_ ?_; rotate_left; (focus (intro w hSw; (try dsimp only at hSw); go_simp; first | done | with_reducible rfl)); (simp only [Act.at, List.setIfInBounds_toArray, List.set_cons_zero, List.set_cons_succ]))
        | (refine take_unwanted (i := 8) rfl rfl (by kernel_rfl) (by kernel_rfl) (by kernel_rfl) (fun _ _ _ h => h) (by rfl) (by assumption) ?_; (simp only [Act.at, List.setIfInBounds_toArray, List.set_cons_zero, List.set_cons_succ]))
        first
        | (refine take_wanted (i := 9) (v := ?_) rfl rfl (by kernel_rfl) (by kernel_rfl) (by kernel_rfl) (fun _ _ _ h => h) (by rfl) (by assumption) ?_ ?_; rotate_left; (focus (intro w hSw; (try dsimp only at hSw); go_simp; first | done | with_reducible rfl)); (simp only [Act.at, List.setIfInBounds_toArray, List.set_cons_zero, List.set_cons_succ]))
        | (refine take_unwanted (i := 9) rfl rfl (by kernel_rfl) (by kernel_rfl) (by kernel_rfl) (fun _ _ _ h => h) (by rfl) (by assumption) ?_; (simp only [Act.at, List.setIfInBounds_toArray, List.set_cons_zero, List.set_cons_succ]))
        first
        | (refine take_wanted (i := 10) (v := ?_) rfl rfl (by kernel_rfl) (by kernel_rfl) (by kernel_rfl) (fun _ _ _ h => h) (by rfl) (by assumption) ?_ ?_; rotate_left; (focus (intro w hSw; (try dsimp only at hSw); go_simp; first | done | with_reducible rfl)); (simp only [Act.at, List.setIfInBounds_toArray, List.set_cons_zero, List.set_cons_succ]))
        | (refine take_unwanted (i := 10) rfl rfl (by kernel_rfl) (by kernel_rfl) (by kernel_rfl) (fun _ _ _ h => h) (by rfl) (by assumption) ?_; (simp only [Act.at, List.setIfInBounds_toArray, List.set_cons_zero, List.set_cons_succ]))
        first
        | (refine take_wanted (i := 11) (v := ?_) rfl rfl (by kernel_rfl) (by kernel_rfl) (by kernel_rfl) (fun _ _ _ h => h) (by rfl) (by assumption) ?_ ?_; rotate_left; (focus (intro w hSw; (try dsimp only at hSw); go_simp; first | done | with_reducible rfl)); (simp only [Act.at, List.setIfInBounds_toArray, List.set_cons_zero, List.set_cons_succ]))
        | (refine take_unwanted (i := 11) rfl rfl (by kernel_rfl) (by kernel_rfl) (by kernel_rfl) (fun _ _ _ h => h) (by rfl) (by assumption) ?_; (simp only [Act.at, List.setIfInBounds_toArray, List.set_cons_zero, List.set_cons_succ]))
        first
        | (refine take_wanted (i := 12) (v := ?_) rfl rfl (by kernel_rfl) (by kernel_rfl) (by kernel_rfl) (fun _ _ _ h => h) (by rfl) (by assumption) ?_ ?_; rotate_left; (focus (intro w hSw; (try dsimp only at hSw); go_simp; first | done | with_reducible rfl)); (simp only [Act.at, List.setIfInBounds_toArray, List.set_cons_zero, List.set_cons_succ]))
        | (refine take_unwanted (i := 12) rfl rfl (by kernel_rfl) (by kernel_rfl) (by kernel_rfl) (fun _ _ _ h => h) (by rfl) (by assumption) ?_; (simp only [Act.at, List.setIfInBounds_toArray, List.set_cons_zero, List.set_cons_succ]))
        first
        | (refine take_wanted (i := 13) (v := ?_) rfl rfl (by kernel_rfl) (by kernel_rfl) (by kernel_rfl) (fun _ _ _ h => h) (by rfl) (by assumption) ?_ ?_; rotate_left; (focus (intro w hSw; (try dsimp only at hSw); go_simp; first | done | with_reducible rfl)); (simp only [Act.at, List.setIfInBounds_toArray, List.set_cons_zero, List.set_cons_succ]))
        | (refine take_unwanted (i := 13) rfl rfl (by kernel_rfl) (by kernel_rfl) (by kernel_rfl) (fun _ _ _ h => h) (by rfl) (by assumption) ?_; (simp only [Act.at, List.setIfInBounds_toArray, List.set_cons_zero, List.set_cons_succ]))
        first
        | (refine take_wanted (i := 14) (v := ?_) rfl rfl (by kernel_rfl) (by kernel_rfl) (by kernel_rfl) (fun _ _ _ h => h) (by rfl) (by assumption) ?_ ?_; rotate_left; (focus (intro w hSw; (try dsimp only at hSw); go_simp; first | done | with_reducible rfl)); (simp only [Act.at, List.setIfInBounds_toArray, List.set_cons_zero, List.set_cons_succ]))
        | (refine take_unwanted (i := 14) rfl rfl (by kernel_rfl) (by kernel_rfl) (by kernel_rfl) (fun _ _ _ h => h) (by rfl) (by assumption) ?_; (simp only [Act.at, List.setIfInBounds_toArray, List.set_cons_zero, List.set_cons_succ]))
        first
        | (refine take_wanted (i := 15) (v := ?_) rfl rfl (by kernel_rfl) (by kernel_rfl) (by kernel_rfl) (fun _ _ _ h => h) (by rfl) (by assumption) ?_ ?_; rotate_left; (focus (intro w hSw; (try dsimp only at hSw); go_simp; first | done | with_reducible rfl)); (simp only [Act.at, List.setIfInBounds_toArray, List.set_cons_zero, List.set_cons_succ]))
        | (refine take_unwanted (i := 15) rfl rfl (by kernel_rfl) (by kernel_rfl) (by kernel_rfl) (fun _ _ _ h => h) (by rfl) (by assumption) ?_; (simp only [Act.at, List.setIfInBounds_toArray, List.set_cons_zero, List.set_cons_succ]))
        first
        | (refine take_wanted (i := 16) (v := ?_) rfl rfl (by kernel_rfl) (by kernel_rfl) (by kernel_rfl) (fun _ _ _ h => h) (by rfl) (by assumption) ?_ ?_; rotate_left; (focus (intro w hSw; (try dsimp only at hSw); go_simp; first | done | with_reducible rfl)); (simp only [Act.at, List.setIfInBounds_toArray, List.set_cons_zero, List.set_cons_succ]))
        | (refine take_unwanted (i := 16) rfl rfl (by kernel_rfl) (by kernel_rfl) (by kernel_rfl) (fun _ _ _ h => h) (by rfl) (by assumption) ?_; (simp only [Act.at, List.setIfInBounds_toArray, List.set_cons_zero, List.set_cons_succ]))
        first
        | (refine take_wanted (i := 17) (v := ?_) rfl rfl (by kernel_rfl) (by kernel_rfl) (by kernel_rfl) (fun _ _ _ h => h) (by rfl) (by assumption) ?_ ?_; rotate_left; (focus (intro w hSw; (try dsimp only at hSw); go_simp; first | done | with_reducible rfl)); (simp only [Act.at, List.setIfInBounds_toArray, List.set_cons_zero, List.set_cons_succ]))
        | (refine take_unwanted (i := 17) rfl rfl (by kernel_rfl) (by kernel_rfl) (by kernel_rfl) (fun _ _ _ h => h) (by rfl) (by assumption) ?_; (simp only [Act.at, List.setIfInBounds_toArray, List.set_cons_zero, List.set_cons_succ]))
        first
        | (refine take_wanted (i := 18) (v := ?_) rfl rfl (by kernel_rfl) (by kernel_rfl) (by kernel_rfl) (fun _ _ _ h => h) (by rfl) (by assumption) ?_ ?_; rotate_left; (focus (intro w hSw; (try dsimp only at hSw); go_simp; first | done | with_reducible rfl)); (simp only [Act.at, List.setIfInBounds_toArray, List.set_cons_zero, List.set_cons_succ]))
        | (refine take_unwanted (i := 18) rfl rfl (by kernel_rfl) (by kernel_rfl) (by kernel_rfl) (fun _ _ _ h => h) (by rfl) (by assumption) ?_; (simp only [Act.at, List.setIfInBounds_toArray, List.set_cons_zero, List.set_cons_succ]))
        refine wpAnyH_done (by kernel_rfl) ?_ _
        go_wp2_with fail
        refine (H.out.1.awake).mono ?_
        rintro r w7 ⟨rfl, hb⟩
        go_wp2_with fail
        go_ret
        exact ⟨rfl, (H.out.1.below hb).b⟩

set_option maxRecDepth 100000 in
theorem pledgeKepts_contract {H : Type} (enc : TypeId × Value → H) (W : World) (base : Nat) (args : Array Value) (ds gs : List (DataW H)) (before : List MemPlace)
    (hval : ∀ (j : Nat) t v, Tryd.f7.params[j]? = some t → args[j]? = some v → Value.okWide Tryd.prog W .any base t v)
    (hW : DataW.Whole enc Tryd.prog Tryd.f7.params.toList Rows.pledgeKeptsSpec.vars false W args.toList ds gs before)
    (hsz : (DataW.weightsEach Tryd.prog (Tryd.f7.params.toList ++ Rows.pledgeKeptsSpec.plain.varTypes Tryd.prog) (ds ++ gs)).all (· ≤ reachBytes) = true) (hT : Tabs W) :
    Calls Tryd.prog 7 args W fun e W' =>
      ((Rows.pledgeKeptsSpec.fn H (ds ++ gs)).results = [.lit (.bool true)] ∧ (Rows.pledgeKeptsSpec.fn H (ds ++ gs)).args = ds ∧ (Rows.pledgeKeptsSpec.fn H (ds ++ gs)).vars = []) ∧ e = .returned (.bool true) ∧ Below W.heap.size W W' := by
  obtain ⟨p, q, hA0, hV, rfl, hfz, hnd⟩ := hW
  have hA : DataW.TrodAll enc Tryd.prog W 0 (fun _ => true) true Tryd.f7.params.toList args.toList ds p := hA0
  rw [Tryd.params7] at hA hval hsz
  obtain ⟨v0, v1, v2, d0, d1, d2, p0, p1, p2, rfl, rfl, rfl, h0, h1, h2⟩ := trodAll_three hA
  obtain ⟨rfl, rfl⟩ := trodVars_none hV
  obtain ⟨key, rfl, rfl, rfl, max_key⟩ := open_string Tryd.underlying9 (hval 0 9 v0 rfl rfl) h0
  have len_key : key.data.toList.length ≤ reachBytes := sized_string hsz (j := 0) (t := 9) rfl rfl
  obtain ⟨id, rfl, rfl, rfl, max_id⟩ := open_string Tryd.underlying9 (hval 1 9 v1 rfl rfl) h1
  have len_id : id.data.toList.length ≤ reachBytes := sized_string hsz (j := 1) (t := 9) rfl rfl
  obtain ⟨n_s, pl_s, c_s, e_s, rfl⟩ := slip_open (hval 2 38 v2 rfl rfl) h2
  rw [← S_of key]
  rw [← S_of id]
  exact (pledgeKepts_any key.data.toList id.data.toList n_s pl_s c_s e_s W hT).mono fun e W' h => ⟨⟨rfl, rfl, rfl⟩, h⟩

end Go.Proofs.YtlbdpadifhgloaaDoor
