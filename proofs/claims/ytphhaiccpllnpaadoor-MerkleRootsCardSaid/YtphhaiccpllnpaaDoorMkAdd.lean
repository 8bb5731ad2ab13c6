/-
  The contract of a front's Add.
-/
import Derived.Test.YtphhaiccpllnpaaDoorMkFrontC
import Derived.Test.YtphhaiccpllnpaaDoorMkAwake
import Derived.ArgAppend
namespace Go.Proofs.YtphhaiccpllnpaaDoor
open Go.RowKit
set_option linter.unusedVariables false

section
variable {P : Program} {ops : Array Oper} {Q : Exit → Act → World → Prop} {md : Region.Mode} {S : World → Prop}
/-- One alone may come up, in a held region. -/
theorem heldOne {i : Nat} {oi : Oper} {fuel : Nat} {listed : Array Bool} {a : Act} {w : World} (hr : Region.ready md ops listed = [i]) (hi : ops[i]? = some oi) (hwi : Region.wanted oi (yielded ops a.tmps) = true)
    (h1 : ∀ KS : Act → World → Prop, Shut (∀ a w, S w → (S w → wpAnyH P md ops Q S fuel (listed.setIfInBounds i true) a w) → KS a w) → Oper.wp P oi a w KS Q) : wpAnyH P md ops Q S (fuel + 1) listed a w :=
  wpAnyH_ready hr (by simp) (AllReadyH.cons hi (fun KS hK => by rw [if_pos hwi]; exact h1 KS hK) AllReadyH.nil)
/-- append to a slice without room, at the operation. -/
theorem wp_append_grows (w : World) {o : Oper} {a : Act} {KS : Act → World → Prop} (s x : Operand) (t : TypeId) (hop : o.op = Op.call { callee := Callee.builtin Builtin.append, args := #[s, x], argTypes := #[t, t] })
    (e : TypeId) (i : TypeInfo) (z : Value) (size bytes : Nat) (h1 : P.underlying t = some (.slice e)) (h2 : P.info? e = some i) (h3 : i.zero = some z) (h4 : i.size = size) (h5 : i.bytes = bytes) (h6 : z.cells.size = size) (h7 : 0 < size)
    (ao : Option Addr) (n cap : Nat) (olds : List Value) (hs : a.eval s = .slice ao n cap) (hnone : ao = none → n = 0 ∧ cap = 0) (hlo : olds.length = n * size) (holds : ∀ b, ao = some b → ∀ j u, olds[j]? = some u → w.cell? (b.add j) = some u)
    (ad : Addr) (m c : Nat) (news : List Value) (hx : a.eval x = .slice (some ad) m c) (hn : news.length = m * size) (hc : ∀ j u, news[j]? = some u → w.cell? (ad.add j) = some u) (h1c : ∀ u ∈ news, u.oneCell' = true)
    (hfull : cap < n + m) (b1 : n + m ≤ maxLen) (b2 : (n + m) * bytes ≤ 140737488355328)
    (hK : ∀ v' w', w'.ownsRow w.heap.size e size v' (n + m) (olds ++ news) → w.grownBy w' none → KS (a.put o.dst v') w') : o.wp P a w KS Q := by
  cases ao with
  | some b =>
    obtain ⟨v', w', hrun, r1, r2⟩ := run_append_arg_grows (P := P) w t o.type e i z size bytes h1 h2 h3 h4 h5 h6 h7 b n cap olds hlo (holds b rfl) ad m c news hn hc hfull b1 b2
    unfold Oper.wp
    simp [execOp, hop, resolve, invoke, builtin, hs, hx, hrun, Result.andThen]
    exact hK v' w' r1 r2
  | none =>
    obtain ⟨rfl, rfl⟩ := hnone rfl
    obtain rfl : olds = [] := List.eq_nil_of_length_eq_zero (by simpa using hlo)
    obtain ⟨v', w', hrun, r1, r2, _⟩ := run_append_own (P := P) w w.heap.size t o.type e i z size bytes h1 h2 h3 h4 h5 h6 h7 (.slice none 0 0) 0 [] (World.ownsRow_nil w _ e size) ad m c news hn hc h1c b1 b2 (Nat.le_refl _)
    unfold Oper.wp
    simp [execOp, hop, resolve, invoke, builtin, hs, hx, hrun, Result.andThen]
    exact hK v' w' r1 r2
end

theorem add_plain' (b off i : Nat) : (⟨b, off, none⟩ : Addr).add i = ⟨b, off + i, none⟩ := by unfold Addr.add; split <;> simp_all
theorem add_block (b : Addr) (j : Nat) : (b.add j).block = b.block := by unfold Addr.add; split <;> rfl
theorem TRow.tvs {w : World} {b off : Nat} {L : List (List UInt8)} (h : TRow w b off L) : ∀ (j : Nat) (u : Value), (tvs L)[j]? = some u → w.cell? ((⟨b, off, none⟩ : Addr).add j) = some u := by
  intro j u hu
  unfold Go.Proofs.YtphhaiccpllnpaaDoor.tvs at hu
  rw [List.getElem?_map] at hu
  cases hj : L[j]? with
  | none => rw [hj] at hu; cases hu
  | some x =>
    rw [hj] at hu
    obtain ⟨hlt, hx⟩ := List.getElem?_eq_some_iff.1 hj
    have := h j hlt
    rw [add_plain', this, hx]
    exact hu
theorem tvs_len (L : List (List UInt8)) : (tvs L).length = L.length := by simp [tvs]
theorem tvs_app (A B : List (List UInt8)) : tvs A ++ tvs B = tvs (A ++ B) := by simp [tvs]
/-- A slice reads as L, or is nil where there is nothing. -/
def Reads (w : World) (ao : Option Addr) (L : List (List UInt8)) : Prop := (ao = none → L = []) ∧ ∀ b, ao = some b → ∀ (j : Nat) (u : Value), (tvs L)[j]? = some u → w.cell? (b.add j) = some u
theorem Reads.of_row {w : World} {b off : Nat} {L : List (List UInt8)} (h : TRow w b off L) : Reads w (some ⟨b, off, none⟩) L := ⟨fun e => (by cases e), fun a ha => by cases ha; exact h.tvs⟩
theorem Reads.nil (w : World) : Reads w Option.none [] := ⟨fun _ => rfl, fun b hb => by cases hb⟩
theorem Reads.mv {w w' : World} {s : List Nat} {b off : Nat} {L : List (List UInt8)} (h : TRow w b off L) (hm : Mv w w' s) (hb : b < w.heap.size) (hs : b ∉ s) : Reads w' (some ⟨b, off, none⟩) L := Reads.of_row (h.mv hm hb hs)
theorem Reads.keepMv {w w' : World} {s : List Nat} {ao : Option Addr} {L : List (List UInt8)} (h : Reads w ao L) (hm : Mv w w' s) (hb : ∀ b, ao = some b → b.block < w.heap.size ∧ b.block ∉ s) : Reads w' ao L :=
  ⟨h.1, fun b hb' j u hu => (World.cell?_of_block (a := b.add j) (by rw [add_block]; exact hm.block _ (hb b hb').1 (hb b hb').2)).trans (h.2 b hb' j u hu)⟩
theorem Mv.of_none {w w' : World} (h : w.grownBy w' none) (s : List Nat) : Mv w w' s := Mv.of_grown h (fun k e => by cases e)
theorem belowG {w w' : World} (h : w.grownBy w' none) : Below w.heap.size w w' := ⟨h.os, h.tape, h.output, h.size, fun i hi => h.block i hi (by simp)⟩

/-- The cell that the last line reads. -/
abbrev FrM (f g : Nat) (W : World) : Prop := W.cell? ⟨f, 0, none⟩ = some (.pointer (some ⟨g, 0, none⟩))
/-- What Add leaves. -/
def AddPost (w : World) (f g nb B : Nat) (L : List (List UInt8)) (st : Mill.St) (e : Ending) (w' : World) : Prop :=
  ∃ ts : List (List UInt8), e = .returned (.tuple #[]) ∧ ts.length ≤ 1000 ∧ FrontAt w' f g B L ∧ MkW w' g nb none [] (Mill.steps [] ts st) ∧ Mv w w' [g, nb, f]
theorem Reads.keep {w w' : World} {ao : Option Addr} {L : List (List UInt8)} (h : Reads w ao L) (hb : Below w.heap.size w w') : Reads w' ao L :=
  ⟨h.1, fun b hb' j u hu => by
    have hc := h.2 b hb' j u hu
    have hlt := World.block_lt_of_cell? w _ hc
    exact (World.cell?_of_block (hb.block _ hlt)).trans hc⟩

set_option maxRecDepth 100000 in
set_option maxHeartbeats 8000000 in
theorem add_any (f g nb : Nat) (L : List (List UInt8)) (x : List UInt8) (st : Mill.St) (w : World) (h : FrontAt w f g (f + 1) L) (hfg : g < f) (hfn : nb < f) (hL : L.length < 60) (hs : ∀ s, s ∈ L → s.length ≤ 1000000) (hx : x.length ≤ 1000000) (hsum : st.sums ≤ 1000000) (hm : MkW w g nb none [] st) (hD : Deb w) :
    Calls Tryd.prog 16 #[.pointer (some ⟨f, 0, none⟩), .string (S x)] w (AddPost w f g nb (f + 1) (L ++ [x]) st) := by
  obtain ⟨i0, hi0, hz0, hz1, hz2⟩ := info_parts mkinfo
  have HIN := Lib.hid (And.intro hi0 (And.intro hz0 (And.intro hz1 hz2))); clear hi0 hz0 hz1 hz2
  obtain ⟨A, cap, hh, hc, hcm, h0, h1⟩ := h
  obtain ⟨KS, JS, hKJ, hJl, hnext⟩ := Mk.peaks_next [] L x
  have hpl := Mk.peaks_len [] L.length L rfl
  have hps := Mk.peaks_short [] rfl 1000000 (by omega) L.length L rfl hs
  have hflt := hh.lt
  have hg2 := hm.g2
  have hn2 := hm.n2
  have HGR := Lib.hid (grows_any f g L.length _ w hh)
  rw [hKJ] at hh hc hpl hps h1
  have hZ : ∃ z Z, JS ++ [x] = z :: Z ∧ Z.length = JS.length := by
    cases JS with
    | nil => exact ⟨x, [], rfl, rfl⟩
    | cons a JS => exact ⟨a, JS ++ [x], rfl, by simp⟩
  obtain ⟨z, Z, hZ, hZl⟩ := hZ
  have hzs : ∀ s, s ∈ z :: Z → s.length ≤ 1000000 := fun s hx' => by
    rw [← hZ] at hx'
    rcases List.mem_append.1 hx' with h | h
    · exact hps s (List.mem_append_right _ h)
    · rw [List.mem_singleton.1 h]; exact hx
  have hpk0 : L = [] → KS = [] ∧ JS = [] := fun e => by
    rw [e, Mk.peaks_nil] at hKJ
    have h' : KS ++ JS = [] := hKJ.symm
    exact List.append_eq_nil_iff.1 h'
  have hkj : KS.length + JS.length = (KS ++ JS).length := (List.length_append).symm
  have hjoin := fun W jb cap5 (hjn : jb ∉ [g, nb]) (hc5 : Z.length + 1 ≤ cap5) (hcm5 : cap5 ≤ 9223372036854775807) (hrow : TRow W jb 0 (z :: Z)) (hlt : jb < W.heap.size) (hmW : MkW W g nb none [] st) => join_any g nb none [] rfl jb hjn Z z 0 cap5 st W (by omega) hc5 hcm5 hrow hlt hzs (by omega) hmW
  unfold FewPost at hjoin
  rw [hZ] at hnext
  have hTz := fun W (hW : Deb W) => tz_any (L.length + 1) (by omega) (by omega) W hW
  rw [Nat.add_sub_cancel, ← hJl] at hTz
  have hlen1 : (L ++ [x]).length = L.length + 1 := by simp
  have hne : L ++ [x] ≠ [] := by simp
  have HFIN : Hid (∀ (w8 : World) (v8 : Value) (ts : List (List UInt8)), ts.length ≤ Z.length → (Has w8 f 70 (frc g (L.length + 1) (.slice A (KS ++ JS).length cap)) ∧ MkW w8 g nb none [] (Mill.steps [] ts st) ∧ Mv w w8 [g, nb, f]) →
      w8.ownsRow w.heap.size 9 1 v8 (KS.length + 1) (tvs (KS ++ [Mk.fold [] (z :: Z)])) → AddPost w f g nb (f + 1) (L ++ [x]) st (.returned (.tuple #[])) (w8.setCell ⟨f, 2, none⟩ v8)) := Lib.hid (fun w8 v8 ts hts H8 hown => by
    have ho : Only w8 (w8.setCell ⟨f, 2, none⟩ v8) f := Only.set w8 f 2 v8
    have hv := Mv.of_only ho (s := [f]) (by simp)
    have hm8 := H8.2.1
    have hkl : (KS ++ [Mk.fold [] (z :: Z)]).length = KS.length + 1 := by simp
    obtain ⟨A8, cap8, rfl, hc8, hcm8, _, hr8⟩ := own_row hown hkl
    obtain ⟨rb, rfl, hrlt, hrb, hrrow⟩ := hr8 (by simp)
    refine ⟨ts, rfl, by omega, ⟨some ⟨rb, 0, none⟩, cap8, ?_, ?_, hcm8, fun e => absurd e hne, fun _ => ⟨rb, rfl, by omega, Nat.lt_of_lt_of_le hrlt hv.size, ?_⟩⟩, ?_, H8.2.2.trans (hv.wide (by simp))⟩
    · rw [hnext, hkl, hlen1]; exact H8.1.set 2 _
    · rw [hnext, hkl]; exact hc8
    · rw [hnext]; exact hrrow.mv hv hrlt (by simp; omega)
    · exact ⟨hm8.m.mv hv (by simp; omega) (by simp; omega) (fun b hb => by cases hb), hv.tabs hm8.t (by simp; omega), hm8.g2, hm8.n2⟩)
  have hZl' := hZl
  have HZ := Lib.hid (And.intro hZ hZl)
  generalize Mk.fold [] (z :: Z) = y at *
  have hlow : f ∉ [g, nb] := by simp only [List.mem_cons, List.not_mem_nil, or_false]; omega
  have hvlen := hkj
  obtain ⟨vn, hvn⟩ : ∃ vn, (KS ++ JS).length = vn := ⟨_, rfl⟩
  rw [hvn] at hh hc hpl HFIN hvlen
  rw [Int.natCast_add, Int.natCast_one] at hTz
  have hw := True.intro
  have hh1 : Has (w.setCell ⟨f, 1, none⟩ (.int .i64 ((L.length : Int) + 1))) f 70 (frc g (L.length + 1) (.slice A vn cap)) := hh.set 1 (.int .i64 ((L.length : Int) + 1))
  have hv1 := Mv.of_only (Only.set w f 1 (.int .i64 ((L.length : Int) + 1))) (s := [f]) (by simp)
  have hm1 : MkW (w.setCell ⟨f, 1, none⟩ (.int .i64 ((L.length : Int) + 1))) g nb none [] st := ⟨hm.m.mv hv1 (by simp; omega) (by simp; omega) (fun b hb => by cases hb), hv1.tabs hm.t (by simp; omega), hm.g2, hm.n2⟩
  have hD1 := hD.mv hv1 hm.t (by simp; omega)
  have hR0 : L ≠ [] → ∃ rb, A = some ⟨rb, 0, none⟩ ∧ rb < w.heap.size ∧ rb ∉ [g, nb, f] ∧ TRow w rb 0 (KS ++ JS) := fun hl => by
    obtain ⟨rb, hA, hB, hlt, hr⟩ := h1 hl
    exact ⟨rb, hA, hlt, by simp only [List.mem_cons, List.not_mem_nil, or_false]; omega, hr⟩
  have c1 : w.cell? ⟨f, 1, none⟩ = some (.int .i64 (L.length : Int)) := hh.cell 1
  have f1 : w.frozen? ⟨f, 1, none⟩ = false := hh.free 1
  have hsz := hv1.size
  have H1 := Lib.hid (And.intro hh1 (And.intro hm1 (And.intro (hv1.wide (t := [g, nb, f]) (by simp)) hD1)))
  clear hh1 hm1 hv1 hD1 hh hm hD h1 hw hps hzs hKJ hnext hne hlen1 hs
  have HTZ := Lib.hid hTz; clear hTz
  have HJ := Lib.hid hjoin; clear hjoin
  have hL0 : L = [] → L.length = 0 := fun e => by rw [e]; rfl
  have hL1 : L ≠ [] → L.length ≠ 0 := fun h e => h (List.length_eq_zero_iff.mp e)
  have HCASE : Hid (L = [] ∨ L ≠ []) := Lib.hid (Decidable.em _)
  generalize hnn : L.length = n at *
  obtain ⟨zn, hzn⟩ : ∃ zn, Z.length = zn := ⟨_, rfl⟩
  rw [hzn] at HJ HFIN HZ hZl'
  have HZ2 := Lib.hid hzn
  clear hzn hZ hZl hZl'
  have hwlt : f < w.heap.size := hflt
  obtain ⟨kn, hkn⟩ : ∃ kn, KS.length = kn := ⟨_, rfl⟩
  obtain ⟨jn, hjn⟩ : ∃ jn, JS.length = jn := ⟨_, rfl⟩
  rw [hkn, hjn] at hvlen
  rw [hkn] at HFIN
  rw [hjn] at HTZ HZ
  clear hJl hnn hkj
  rcases HCASE.out with hl0 | hl1
  · obtain ⟨rfl, rfl⟩ := h0 hl0
    obtain ⟨rfl, rfl⟩ := hpk0 hl0
    have e1 : kn = 0 := hkn.symm
    have e2 : jn = 0 := hjn.symm
    subst e1
    subst e2
    have e3 : vn = 0 := by rw [← hvlen]
    subst e3
    have HLN : Hid (([] : List Mk.T).length = 0 ∧ ([] : List Mk.T).length = 0 ∧ f ∉ [g, nb] ∧ zn = 0) := Lib.hid ⟨rfl, rfl, hlow, HZ.out.2⟩
    have HRK : Hid (∀ w5 w6 : World, Mv w w5 [g, nb, f] → Mv w5 w6 [g, nb] → Reads w5 Option.none [] → Reads w6 Option.none []) := Lib.hid (fun _ w6 _ _ _ => Reads.nil w6)
    have HRD : Hid (∀ W : World, Mv w W [g, nb, f] → Reads W Option.none ([] : List Mk.T) ∧ Reads W Option.none ([] : List Mk.T)) := Lib.hid (fun W _ => ⟨Reads.nil W, Reads.nil W⟩)
    clear h0 hpk0 hL0 hL1 HCASE hkn hjn hvlen hpl hl0 hR0
    go_enter Tryd.func16, Tryd.ntmps16
    go_wp2_with fail
    refine (HGR.out).mono ?_
    rintro r w0 ⟨rfl, rfl⟩
    go_upto_region 2 with (fail)
    generalize w0.setCell ⟨f, 1, none⟩ (.int .i64 ((n : Int) + 1)) = w1 at H1 ⊢
    have c0 : w1.cell? ⟨f, 0, none⟩ = some (.pointer (some ⟨g, 0, none⟩)) := H1.out.1.cell 0
    have d1 : w1.cell? ⟨f, 1, none⟩ = some (.int .i64 ((n : Int) + 1)) := H1.out.1.cell 1
    have d2 : w1.cell? ⟨f, 2, none⟩ = some (.slice none 0 0) := H1.out.1.cell 2
    clear c1 f1
    go_quiet ((go_at_call 39; exact Calls.quiet_of_same (HTZ.out _ (show Deb _ from H1.out.2.2.2))))
    have hb2 := belowN (Below.refl w1.heap.size w1) nq
    replace c0 : (w1.drewN nq).cell? ⟨f, 0, none⟩ = some (.pointer (some ⟨g, 0, none⟩)) := c0
    replace d2 : (w1.drewN nq).cell? ⟨f, 2, none⟩ = some (.slice none 0 0) := d2
    generalize w1.drewN nq = w2 at hb2 c0 d2 ⊢
    clear d1
    go_upto_region 3 with (fail)
    go_quiet (fail)
    have hb3 := belowN (Below.refl w2.heap.size w2) nq
    generalize w2.drewN nq = w3 at hb3 ⊢
    have HK := (Mv.of_below hb2 [g, nb, f]).trans (Mv.of_below hb3 [g, nb, f])
    replace H1 := Lib.hid (And.intro ((H1.out.1.below hb2 H1.out.1.lt).below hb3 (H1.out.1.below hb2 H1.out.1.lt).lt) (And.intro ((H1.out.2.1.below hb2).below hb3) (H1.out.2.2.1.trans HK)))
    clear c0 d2 hb2 hb3 HK
    go_upto_region 4 with (fail)
    have HRd := HRD.out w3 H1.out.2.2
    have hx : FrM f g w3.drew := H1.out.1.cell 0
    refine wp_region_held_drew (S := FrM f g) (by kernel_rfl) hx (fun hHeld => ?_)
    have hbd : Below w3.heap.size w3 w3.drew := Below.drew (Below.refl _ _)
    have HK : Hid (Has w3.drew f 70 (frc g (n + 1) (.slice none 0 0)) ∧ MkW w3.drew g nb none [] st ∧ Mv w0 w3.drew [g, nb, f] ∧ Reads w3.drew Option.none ([] : List Mk.T) ∧ Reads w3.drew Option.none ([] : List Mk.T)) := Lib.hid ⟨H1.out.1.below hbd H1.out.1.lt, H1.out.2.1.below hbd, H1.out.2.2.trans (Mv.of_below hbd _), HRd.1.keep hbd, HRd.2.keep hbd⟩
    clear H1 hbd HRd HRD
    generalize w3.drew = wd at HK hx hHeld ⊢
    first
    | (refine take_wanted (i := 0) (v := ?_) rfl rfl (by kernel_rfl) (by kernel_rfl) (by kernel_rfl) (fun _ _ _ h => h) (by rfl) (by assumption) ?_ ?_; rotate_left; (focus (intro w hSw; (try dsimp only at hSw); go_simp; first | done | with_reducible rfl)); (simp only [Act.at, List.setIfInBounds_toArray, List.set_cons_zero, List.set_cons_succ]))
    | (refine take_unwanted (i := 0) rfl rfl (by kernel_rfl) (by kernel_rfl) (by kernel_rfl) (fun _ _ _ h => h) (by rfl) (by assumption) ?_; (simp only [Act.at, List.setIfInBounds_toArray, List.set_cons_zero, List.set_cons_succ]))
    first
    | (refine take_wanted (i := 1) (v := ?_) rfl rfl (by kernel_rfl) (by kernel_rfl) (by kernel_rfl) (fun _ _ _ h => h) (by rfl) (by assumption) ?_ ?_; rotate_left; (focus (intro w hSw; (try dsimp only at hSw); go_simp; first | done | with_reducible rfl)); (simp only [Act.at, List.setIfInBounds_toArray, List.set_cons_zero, List.set_cons_succ]))
    | (refine take_unwanted (i := 1) rfl rfl (by kernel_rfl) (by kernel_rfl) (by kernel_rfl) (fun _ _ _ h => h) (by rfl) (by assumption) ?_; (simp only [Act.at, List.setIfInBounds_toArray, List.set_cons_zero, List.set_cons_succ]))
    first
    | (refine take_wanted (i := 2) (v := ?_) rfl rfl (by kernel_rfl) (by kernel_rfl) (by kernel_rfl) (fun _ _ _ h => h) (by rfl) (by assumption) ?_ ?_; rotate_left; (focus (intro w hSw; (try dsimp only at hSw); go_simp; first | done | with_reducible rfl)); (simp only [Act.at, List.setIfInBounds_toArray, List.set_cons_zero, List.set_cons_succ]))
    | (refine take_unwanted (i := 2) rfl rfl (by kernel_rfl) (by kernel_rfl) (by kernel_rfl) (fun _ _ _ h => h) (by rfl) (by assumption) ?_; (simp only [Act.at, List.setIfInBounds_toArray, List.set_cons_zero, List.set_cons_succ]))
    first
    | (refine take_wanted (i := 3) (v := ?_) rfl rfl (by kernel_rfl) (by kernel_rfl) (by kernel_rfl) (fun _ _ _ h => h) (by rfl) (by assumption) ?_ ?_; rotate_left; (focus (intro w hSw; (try dsimp only at hSw); go_simp; first | done | with_reducible rfl)); (simp only [Act.at, List.setIfInBounds_toArray, List.set_cons_zero, List.set_cons_succ]))
    | (refine take_unwanted (i := 3) rfl rfl (by kernel_rfl) (by kernel_rfl) (by kernel_rfl) (fun _ _ _ h => h) (by rfl) (by assumption) ?_; (simp only [Act.at, List.setIfInBounds_toArray, List.set_cons_zero, List.set_cons_succ]))
    first
    | (refine take_wanted (i := 4) (v := ?_) rfl rfl (by kernel_rfl) (by kernel_rfl) (by kernel_rfl) (fun _ _ _ h => h) (by rfl) (by assumption) ?_ ?_; rotate_left; (focus (intro w hSw; (try dsimp only at hSw); go_simp; first | done | with_reducible rfl)); (simp only [Act.at, List.setIfInBounds_toArray, List.set_cons_zero, List.set_cons_succ]))
    | (refine take_unwanted (i := 4) rfl rfl (by kernel_rfl) (by kernel_rfl) (by kernel_rfl) (fun _ _ _ h => h) (by rfl) (by assumption) ?_; (simp only [Act.at, List.setIfInBounds_toArray, List.set_cons_zero, List.set_cons_succ]))
    first
    | (refine take_wanted (i := 5) (v := ?_) rfl rfl (by kernel_rfl) (by kernel_rfl) (by kernel_rfl) (fun _ _ _ h => h) (by rfl) (by assumption) ?_ ?_; rotate_left; (focus (intro w hSw; (try dsimp only at hSw); go_simp; first | done | with_reducible rfl)); (simp only [Act.at, List.setIfInBounds_toArray, List.set_cons_zero, List.set_cons_succ]))
    | (refine take_unwanted (i := 5) rfl rfl (by kernel_rfl) (by kernel_rfl) (by kernel_rfl) (fun _ _ _ h => h) (by rfl) (by assumption) ?_; (simp only [Act.at, List.setIfInBounds_toArray, List.set_cons_zero, List.set_cons_succ]))
    first
    | (refine take_wanted (i := 6) (v := ?_) rfl rfl (by kernel_rfl) (by kernel_rfl) (by kernel_rfl) (fun _ _ _ h => h) (by rfl) (by assumption) ?_ ?_; rotate_left; (focus (intro w hSw; (try dsimp only at hSw); go_simp; first | done | with_reducible rfl)); (simp only [Act.at, List.setIfInBounds_toArray, List.set_cons_zero, List.set_cons_succ]))
    | (refine take_unwanted (i := 6) rfl rfl (by kernel_rfl) (by kernel_rfl) (by kernel_rfl) (fun _ _ _ h => h) (by rfl) (by assumption) ?_; (simp only [Act.at, List.setIfInBounds_toArray, List.set_cons_zero, List.set_cons_succ]))
    first
    | (refine take_wanted (i := 7) (v := ?_) rfl rfl (by kernel_rfl) (by kernel_rfl) (by kernel_rfl) (fun _ _ _ h => h) (by rfl) (by assumption) ?_ ?_; rotate_left; (focus (intro w hSw; (try dsimp only at hSw); go_simp; first | done | with_reducible rfl)); (simp only [Act.at, List.setIfInBounds_toArray, List.set_cons_zero, List.set_cons_succ]))
    | (refine take_unwanted (i := 7) rfl rfl (by kernel_rfl) (by kernel_rfl) (by kernel_rfl) (fun _ _ _ h => h) (by rfl) (by assumption) ?_; (simp only [Act.at, List.setIfInBounds_toArray, List.set_cons_zero, List.set_cons_succ]))
    refine heldOne (i := 8) (by kernel_rfl) rfl (by rfl) (fun KS' hK => ?_)
    go_simp
    have hb4 := belowB wd (.cells #[.string (S x)] 9)
    have hx4 : FrM f g (wd.alloc (.cells #[.string (S x)] 9)) := (HK.out.1.below hb4 HK.out.1.lt).cell 0
    refine hK.out _ _ hx4 (fun hHeld => ?_)
    clear hK KS'
    try simp only [Act.put, List.setIfInBounds_toArray, List.set_cons_zero, List.set_cons_succ]
    have HMADE := Lib.hid (made_one wd x)
    have H4 : Hid (Has (wd.alloc (.cells #[.string (S x)] 9)) f 70 (frc g (n + 1) (.slice none 0 0)) ∧ MkW (wd.alloc (.cells #[.string (S x)] 9)) g nb none [] st ∧ Mv w0 (wd.alloc (.cells #[.string (S x)] 9)) [g, nb, f] ∧ Reads (wd.alloc (.cells #[.string (S x)] 9)) Option.none ([] : List Mk.T) ∧ Reads (wd.alloc (.cells #[.string (S x)] 9)) Option.none ([] : List Mk.T)) := Lib.hid ⟨HK.out.1.below hb4 HK.out.1.lt, HK.out.2.1.below hb4, HK.out.2.2.1.trans (Mv.of_below hb4 _), HK.out.2.2.2.1.keep hb4, HK.out.2.2.2.2.keep hb4⟩
    clear HK hx hb4
    generalize wd.heap.size = b4 at HMADE ⊢
    generalize wd.alloc (.cells #[.string (S x)] 9) = w4 at H4 HMADE hx4 ⊢
    refine heldOne (i := 9) (by kernel_rfl) rfl (by rfl) (fun KS' hK => ?_)
    refine wp_append_grows w4 (.tmp 58) (.tmp 60) 22 rfl 9 i0 (.string ⟨#[]⟩) 1 16 Tryd.underlying22 HIN.out.1 HIN.out.2.1 HIN.out.2.2.1 HIN.out.2.2.2 rfl (by decide) Option.none 0 0 (tvs ([] : List Mk.T)) rfl (by intro e; first | (cases e; done) | exact ⟨rfl, rfl⟩) (by rw [tvs_len]; have := HLN.out.2.1; omega) H4.out.2.2.2.2.2 ⟨b4, 0, none⟩ 1 1 [.string (S x)] rfl rfl HMADE.out (by simp [Value.oneCell']) (by omega) (by simp only [maxLen]; omega) (by omega) ?_
    intro v5 w5 hown5 hg5
    have hb5 := belowG hg5
    have hx5 : FrM f g w5 := (H4.out.1.below hb5 H4.out.1.lt).cell 0
    have H5 : Hid (Has w5 f 70 (frc g (n + 1) (.slice none 0 0)) ∧ MkW w5 g nb none [] st ∧ Mv w0 w5 [g, nb, f] ∧ Reads w5 Option.none ([] : List Mk.T)) := Lib.hid ⟨H4.out.1.below hb5 H4.out.1.lt, H4.out.2.1.below hb5, H4.out.2.2.1.trans (Mv.of_below hb5 _), H4.out.2.2.2.1.keep hb5⟩
    have hgl := H4.out.2.1.m.lt
    rw [tvs_snoc, HZ.out.1] at hown5
    have hown5' : w5.ownsRow w4.heap.size 9 1 v5 (zn + 1) (tvs (z :: Z)) := by have h2 := HZ.out.2; rw [h2]; exact hown5
    obtain ⟨A5, cap5, rfl, hc5, hcm5, _, hr5⟩ := own_row hown5' (by rw [List.length_cons, HZ2.out])
    obtain ⟨jb, rfl, hjlt, hjb, hjrow⟩ := hr5 (by simp)
    have hjn : jb ∉ [g, nb] := by simp only [List.mem_cons, List.not_mem_nil, or_false]; omega
    refine hK.out _ _ hx5 (fun hHeld => ?_)
    clear hK KS' hown5 hown5' hr5 hb5 hg5 H4 hx4 HMADE hjb hgl
    try simp only [Act.put, List.setIfInBounds_toArray, List.set_cons_zero, List.set_cons_succ]
    refine take_call (i := 10) (by kernel_rfl) rfl rfl (by rfl) (fun K hK => ?_)
    go_simp
    refine (HJ.out w5 jb cap5 hjn hc5 hcm5 hjrow hjlt H5.out.2.1).mono ?_
    rintro r w6 ⟨ts, rfl, hts, hm6, hv6⟩
    have H6 : Hid (Has w6 f 70 (frc g (n + 1) (.slice none 0 0)) ∧ MkW w6 g nb none [] (Mill.steps [] ts st) ∧ Mv w0 w6 [g, nb, f] ∧ Reads w6 Option.none ([] : List Mk.T)) := Lib.hid ⟨hv6.has H5.out.1 HLN.out.2.2.1, hm6, H5.out.2.2.1.trans (hv6.wide (by simp)), HRK.out w5 w6 H5.out.2.2.1 hv6 H5.out.2.2.2⟩
    have hx6 : FrM f g w6 := H6.out.1.cell 0
    clear hx5 H5 hHeld hjrow hjlt hv6 hm6 hjn hc5 hcm5
    refine hK.out _ _ hx6 (fun hHeld => ?_)
    clear hK K
    try simp only [Act.put, List.setIfInBounds_toArray, List.set_cons_zero, List.set_cons_succ]
    refine heldOne (i := 11) (by kernel_rfl) rfl (by rfl) (fun KS' hK => ?_)
    go_simp
    have hb7 := belowB w6 (.cells #[.string (S y)] 9)
    have hx7 : FrM f g (w6.alloc (.cells #[.string (S y)] 9)) := (H6.out.1.below hb7 H6.out.1.lt).cell 0
    refine hK.out _ _ hx7 (fun hHeld => ?_)
    clear hK KS' hx6
    try simp only [Act.put, List.setIfInBounds_toArray, List.set_cons_zero, List.set_cons_succ]
    have HMADE := Lib.hid (made_one w6 y)
    have H7 : Hid (Has (w6.alloc (.cells #[.string (S y)] 9)) f 70 (frc g (n + 1) (.slice none 0 0)) ∧ MkW (w6.alloc (.cells #[.string (S y)] 9)) g nb none [] (Mill.steps [] ts st) ∧ Mv w0 (w6.alloc (.cells #[.string (S y)] 9)) [g, nb, f] ∧ Reads (w6.alloc (.cells #[.string (S y)] 9)) Option.none ([] : List Mk.T)) := Lib.hid ⟨H6.out.1.below hb7 H6.out.1.lt, H6.out.2.1.below hb7, H6.out.2.2.1.trans (Mv.of_below hb7 _), H6.out.2.2.2.keep hb7⟩
    clear H6 hb7
    generalize w6.heap.size = b7 at HMADE ⊢
    generalize w6.alloc (.cells #[.string (S y)] 9) = w7 at H7 HMADE hx7 ⊢
    refine heldOne (i := 12) (by kernel_rfl) rfl (by rfl) (fun KS' hK => ?_)
    refine wp_append_grows w7 (.tmp 53) (.tmp 63) 22 rfl 9 i0 (.string ⟨#[]⟩) 1 16 Tryd.underlying22 HIN.out.1 HIN.out.2.1 HIN.out.2.2.1 HIN.out.2.2.2 rfl (by decide) Option.none 0 0 (tvs ([] : List Mk.T)) rfl (by intro e; first | (cases e; done) | exact ⟨rfl, rfl⟩) (by rw [tvs_len]; have := HLN.out.1; omega) H7.out.2.2.2.2 ⟨b7, 0, none⟩ 1 1 [.string (S y)] rfl rfl HMADE.out (by simp [Value.oneCell']) (by omega) (by simp only [maxLen]; omega) (by omega) ?_
    intro v8 w8 hown8 hg8
    have hb8 := belowG hg8
    have hx8 : FrM f g w8 := (H7.out.1.below hb8 H7.out.1.lt).cell 0
    have H8 : Hid (Has w8 f 70 (frc g (n + 1) (.slice none 0 0)) ∧ MkW w8 g nb none [] (Mill.steps [] ts st) ∧ Mv w0 w8 [g, nb, f]) := Lib.hid ⟨H7.out.1.below hb8 H7.out.1.lt, H7.out.2.1.below hb8, H7.out.2.2.1.trans (Mv.of_below hb8 _)⟩
    have hB8 := H7.out.2.2.1.size
    rw [tvs_snoc] at hown8
    refine hK.out _ _ hx8 (fun hHeld => ?_)
    clear hK KS' hx7 HMADE hb8 hg8 H7
    try simp only [Act.put, List.setIfInBounds_toArray, List.set_cons_zero, List.set_cons_succ]
    obtain ⟨A8, cap8, rfl, _, _, _, _⟩ := own_row hown8 (by rw [List.length_append]; have hk' := HLN.out.1; rw [hk']; rfl)
    first
    | (refine take_wanted (i := 13) (v := ?_) rfl rfl (by kernel_rfl) (by kernel_rfl) (by kernel_rfl) (fun _ _ _ h => h) (by rfl) (by assumption) ?_ ?_; rotate_left; (focus (intro w hSw; (try dsimp only at hSw); go_simp; first | done | with_reducible rfl)); (simp only [Act.at, List.setIfInBounds_toArray, List.set_cons_zero, List.set_cons_succ]))
    | (refine take_unwanted (i := 13) rfl rfl (by kernel_rfl) (by kernel_rfl) (by kernel_rfl) (fun _ _ _ h => h) (by rfl) (by assumption) ?_; (simp only [Act.at, List.setIfInBounds_toArray, List.set_cons_zero, List.set_cons_succ]))
    first
    | (refine take_wanted (i := 14) (v := ?_) rfl rfl (by kernel_rfl) (by kernel_rfl) (by kernel_rfl) (fun _ _ _ h => h) (by rfl) (by assumption) ?_ ?_; rotate_left; (focus (intro w hSw; (try dsimp only at hSw); go_simp; first | done | with_reducible rfl)); (simp only [Act.at, List.setIfInBounds_toArray, List.set_cons_zero, List.set_cons_succ]))
    | (refine take_unwanted (i := 14) rfl rfl (by kernel_rfl) (by kernel_rfl) (by kernel_rfl) (fun _ _ _ h => h) (by rfl) (by assumption) ?_; (simp only [Act.at, List.setIfInBounds_toArray, List.set_cons_zero, List.set_cons_succ]))
    have f2 : w8.frozen? ⟨f, 2, none⟩ = false := H8.out.1.free 2
    have d2 : w8.cell? ⟨f, 2, none⟩ = some (.slice none 0 0) := H8.out.1.cell 2
    refine heldOne (i := 15) (by kernel_rfl) rfl (by rfl) (fun KS' hK => ?_)
    go_simp
    have hx9 : FrM f g (w8.setCell ⟨f, 2, none⟩ (.slice A8 (0 + 1) cap8)) := (H8.out.1.set 2 (.slice A8 (0 + 1) cap8)).cell 0
    have HF9 := HFIN.out w8 _ ts hts H8.out (own_low hown8 hB8)
    refine hK.out _ _ hx9 (fun hHeld => ?_)
    clear hK KS' H8 hown8 f2 d2 hx8 hx9
    try simp only [Act.put, List.setIfInBounds_toArray, List.set_cons_zero, List.set_cons_succ]
    refine wpAnyH_done (by kernel_rfl) ?_ _
    go_wp2_with fail
    go_returns
    exact HF9
  · obtain ⟨rb, rfl, hrlt, hrn, hrow0⟩ := hR0 hl1
    have hn1 := hL1 hl1
    have HRK : Hid (∀ w5 w6 : World, Mv w w5 [g, nb, f] → Mv w5 w6 [g, nb] → Reads w5 (some ⟨rb, 0, none⟩) KS → Reads w6 (some ⟨rb, 0, none⟩) KS) := Lib.hid (fun w5 w6 h5 h6 hk => hk.keepMv h6 (fun b hb => by cases hb; exact ⟨Nat.lt_of_lt_of_le hrlt h5.size, fun hx => hrn (by simp only [List.mem_cons, List.not_mem_nil, or_false] at hx ⊢; omega)⟩))
    by_cases hj0 : jn = 0
    · subst hj0
      have e3 : vn = kn := by omega
      subst e3
      have hJn := List.length_eq_zero_iff.mp hjn
      subst hJn
      have HLN : Hid (KS.length = vn ∧ ([] : List Mk.T).length = 0 ∧ f ∉ [g, nb] ∧ zn = 0) := Lib.hid ⟨hkn, rfl, hlow, HZ.out.2⟩
      have HRD : Hid (∀ W : World, Mv w W [g, nb, f] → Reads W (some ⟨rb, 0, none⟩) KS ∧ Reads W (some ⟨rb, 0, none⟩) ([] : List Mk.T)) := Lib.hid (fun W hW => by
        have hr := (hrow0.front).mv hW hrlt hrn
        exact ⟨Reads.of_row hr, Reads.of_row (fun i hi => absurd hi (Nat.not_lt_zero _))⟩)
      clear h0 hpk0 hL0 hL1 HCASE hkn hjn hvlen hl1 hrow0 hR0
      go_enter Tryd.func16, Tryd.ntmps16
      go_wp2_with fail
      refine (HGR.out).mono ?_
      rintro r w0 ⟨rfl, rfl⟩
      go_upto_region 2 with (fail)
      generalize w0.setCell ⟨f, 1, none⟩ (.int .i64 ((n : Int) + 1)) = w1 at H1 ⊢
      have c0 : w1.cell? ⟨f, 0, none⟩ = some (.pointer (some ⟨g, 0, none⟩)) := H1.out.1.cell 0
      have d1 : w1.cell? ⟨f, 1, none⟩ = some (.int .i64 ((n : Int) + 1)) := H1.out.1.cell 1
      have d2 : w1.cell? ⟨f, 2, none⟩ = some (.slice (some ⟨rb, 0, none⟩) vn cap) := H1.out.1.cell 2
      clear c1 f1
      go_quiet ((go_at_call 39; exact Calls.quiet_of_same (HTZ.out _ (show Deb _ from H1.out.2.2.2))))
      have hb2 := belowN (Below.refl w1.heap.size w1) nq
      replace c0 : (w1.drewN nq).cell? ⟨f, 0, none⟩ = some (.pointer (some ⟨g, 0, none⟩)) := c0
      replace d2 : (w1.drewN nq).cell? ⟨f, 2, none⟩ = some (.slice (some ⟨rb, 0, none⟩) vn cap) := d2
      generalize w1.drewN nq = w2 at hb2 c0 d2 ⊢
      clear d1
      go_upto_region 3 with (fail)
      go_quiet (fail)
      have hb3 := belowN (Below.refl w2.heap.size w2) nq
      generalize w2.drewN nq = w3 at hb3 ⊢
      have HK := (Mv.of_below hb2 [g, nb, f]).trans (Mv.of_below hb3 [g, nb, f])
      replace H1 := Lib.hid (And.intro ((H1.out.1.below hb2 H1.out.1.lt).below hb3 (H1.out.1.below hb2 H1.out.1.lt).lt) (And.intro ((H1.out.2.1.below hb2).below hb3) (H1.out.2.2.1.trans HK)))
      clear c0 d2 hb2 hb3 HK
      go_upto_region 4 with (fail)
      have HRd := HRD.out w3 H1.out.2.2
      have hx : FrM f g w3.drew := H1.out.1.cell 0
      refine wp_region_held_drew (S := FrM f g) (by kernel_rfl) hx (fun hHeld => ?_)
      have hbd : Below w3.heap.size w3 w3.drew := Below.drew (Below.refl _ _)
      have HK : Hid (Has w3.drew f 70 (frc g (n + 1) (.slice (some ⟨rb, 0, none⟩) vn cap)) ∧ MkW w3.drew g nb none [] st ∧ Mv w0 w3.drew [g, nb, f] ∧ Reads w3.drew (some ⟨rb, 0, none⟩) KS ∧ Reads w3.drew (some ⟨rb, 0, none⟩) ([] : List Mk.T)) := Lib.hid ⟨H1.out.1.below hbd H1.out.1.lt, H1.out.2.1.below hbd, H1.out.2.2.trans (Mv.of_below hbd _), HRd.1.keep hbd, HRd.2.keep hbd⟩
      clear H1 hbd HRd HRD
      generalize w3.drew = wd at HK hx hHeld ⊢
      first
      | (refine take_wanted (i := 0) (v := ?_) rfl rfl (by kernel_rfl) (by kernel_rfl) (by kernel_rfl) (fun _ _ _ h => h) (by rfl) (by assumption) ?_ ?_; rotate_left; (focus (intro w hSw; (try dsimp only at hSw); go_simp; first | done | with_reducible rfl)); (simp only [Act.at, List.setIfInBounds_toArray, List.set_cons_zero, List.set_cons_succ]))
      | (refine take_unwanted (i := 0) rfl rfl (by kernel_rfl) (by kernel_rfl) (by kernel_rfl) (fun _ _ _ h => h) (by rfl) (by assumption) ?_; (simp only [Act.at, List.setIfInBounds_toArray, List.set_cons_zero, List.set_cons_succ]))
      first
      | (refine take_wanted (i := 1) (v := ?_) rfl rfl (by kernel_rfl) (by kernel_rfl) (by kernel_rfl) (fun _ _ _ h => h) (by rfl) (by assumption) ?_ ?_; rotate_left; (focus (intro w hSw; (try dsimp only at hSw); go_simp; first | done | with_reducible rfl)); (simp only [Act.at, List.setIfInBounds_toArray, List.set_cons_zero, List.set_cons_succ]))
      | (refine take_unwanted (i := 1) rfl rfl (by kernel_rfl) (by kernel_rfl) (by kernel_rfl) (fun _ _ _ h => h) (by rfl) (by assumption) ?_; (simp only [Act.at, List.setIfInBounds_toArray, List.set_cons_zero, List.set_cons_succ]))
      first
      | (refine take_wanted (i := 2) (v := ?_) rfl rfl (by kernel_rfl) (by kernel_rfl) (by kernel_rfl) (fun _ _ _ h => h) (by rfl) (by assumption) ?_ ?_; rotate_left; (focus (intro w hSw; (try dsimp only at hSw); go_simp; first | done | with_reducible rfl)); (simp only [Act.at, List.setIfInBounds_toArray, List.set_cons_zero, List.set_cons_succ]))
      | (refine take_unwanted (i := 2) rfl rfl (by kernel_rfl) (by kernel_rfl) (by kernel_rfl) (fun _ _ _ h => h) (by rfl) (by assumption) ?_; (simp only [Act.at, List.setIfInBounds_toArray, List.set_cons_zero, List.set_cons_succ]))
      first
      | (refine take_wanted (i := 3) (v := ?_) rfl rfl (by kernel_rfl) (by kernel_rfl) (by kernel_rfl) (fun _ _ _ h => h) (by rfl) (by assumption) ?_ ?_; rotate_left; (focus (intro w hSw; (try dsimp only at hSw); go_simp; first | done | with_reducible rfl)); (simp only [Act.at, List.setIfInBounds_toArray, List.set_cons_zero, List.set_cons_succ]))
      | (refine take_unwanted (i := 3) rfl rfl (by kernel_rfl) (by kernel_rfl) (by kernel_rfl) (fun _ _ _ h => h) (by rfl) (by assumption) ?_; (simp only [Act.at, List.setIfInBounds_toArray, List.set_cons_zero, List.set_cons_succ]))
      first
      | (refine take_wanted (i := 4) (v := ?_) rfl rfl (by kernel_rfl) (by kernel_rfl) (by kernel_rfl) (fun _ _ _ h => h) (by rfl) (by assumption) ?_ ?_; rotate_left; (focus (intro w hSw; (try dsimp only at hSw); go_simp; first | done | with_reducible rfl)); (simp only [Act.at, List.setIfInBounds_toArray, List.set_cons_zero, List.set_cons_succ]))
      | (refine take_unwanted (i := 4) rfl rfl (by kernel_rfl) (by kernel_rfl) (by kernel_rfl) (fun _ _ _ h => h) (by rfl) (by assumption) ?_; (simp only [Act.at, List.setIfInBounds_toArray, List.set_cons_zero, List.set_cons_succ]))
      first
      | (refine take_wanted (i := 5) (v := ?_) rfl rfl (by kernel_rfl) (by kernel_rfl) (by kernel_rfl) (fun _ _ _ h => h) (by rfl) (by assumption) ?_ ?_; rotate_left; (focus (intro w hSw; (try dsimp only at hSw); go_simp; first | done | with_reducible rfl)); (simp only [Act.at, List.setIfInBounds_toArray, List.set_cons_zero, List.set_cons_succ]))
      | (refine take_unwanted (i := 5) rfl rfl (by kernel_rfl) (by kernel_rfl) (by kernel_rfl) (fun _ _ _ h => h) (by rfl) (by assumption) ?_; (simp only [Act.at, List.setIfInBounds_toArray, List.set_cons_zero, List.set_cons_succ]))
      first
      | (refine take_wanted (i := 6) (v := ?_) rfl rfl (by kernel_rfl) (by kernel_rfl) (by kernel_rfl) (fun _ _ _ h => h) (by rfl) (by assumption) ?_ ?_; rotate_left; (focus (intro w hSw; (try dsimp only at hSw); go_simp; first | done | with_reducible rfl)); (simp only [Act.at, List.setIfInBounds_toArray, List.set_cons_zero, List.set_cons_succ]))
      | (refine take_unwanted (i := 6) rfl rfl (by kernel_rfl) (by kernel_rfl) (by kernel_rfl) (fun _ _ _ h => h) (by rfl) (by assumption) ?_; (simp only [Act.at, List.setIfInBounds_toArray, List.set_cons_zero, List.set_cons_succ]))
      first
      | (refine take_wanted (i := 7) (v := ?_) rfl rfl (by kernel_rfl) (by kernel_rfl) (by kernel_rfl) (fun _ _ _ h => h) (by rfl) (by assumption) ?_ ?_; rotate_left; (focus (intro w hSw; (try dsimp only at hSw); go_simp; first | done | with_reducible rfl)); (simp only [Act.at, List.setIfInBounds_toArray, List.set_cons_zero, List.set_cons_succ]))
      | (refine take_unwanted (i := 7) rfl rfl (by kernel_rfl) (by kernel_rfl) (by kernel_rfl) (fun _ _ _ h => h) (by rfl) (by assumption) ?_; (simp only [Act.at, List.setIfInBounds_toArray, List.set_cons_zero, List.set_cons_succ]))
      refine heldOne (i := 8) (by kernel_rfl) rfl (by rfl) (fun KS' hK => ?_)
      go_simp
      have hb4 := belowB wd (.cells #[.string (S x)] 9)
      have hx4 : FrM f g (wd.alloc (.cells #[.string (S x)] 9)) := (HK.out.1.below hb4 HK.out.1.lt).cell 0
      refine hK.out _ _ hx4 (fun hHeld => ?_)
      clear hK KS'
      try simp only [Act.put, List.setIfInBounds_toArray, List.set_cons_zero, List.set_cons_succ]
      have HMADE := Lib.hid (made_one wd x)
      have H4 : Hid (Has (wd.alloc (.cells #[.string (S x)] 9)) f 70 (frc g (n + 1) (.slice (some ⟨rb, 0, none⟩) vn cap)) ∧ MkW (wd.alloc (.cells #[.string (S x)] 9)) g nb none [] st ∧ Mv w0 (wd.alloc (.cells #[.string (S x)] 9)) [g, nb, f] ∧ Reads (wd.alloc (.cells #[.string (S x)] 9)) (some ⟨rb, 0, none⟩) KS ∧ Reads (wd.alloc (.cells #[.string (S x)] 9)) (some ⟨rb, 0, none⟩) ([] : List Mk.T)) := Lib.hid ⟨HK.out.1.below hb4 HK.out.1.lt, HK.out.2.1.below hb4, HK.out.2.2.1.trans (Mv.of_below hb4 _), HK.out.2.2.2.1.keep hb4, HK.out.2.2.2.2.keep hb4⟩
      clear HK hx hb4
      generalize wd.heap.size = b4 at HMADE ⊢
      generalize wd.alloc (.cells #[.string (S x)] 9) = w4 at H4 HMADE hx4 ⊢
      refine heldOne (i := 9) (by kernel_rfl) rfl (by rfl) (fun KS' hK => ?_)
      refine wp_append_grows w4 (.tmp 58) (.tmp 60) 22 rfl 9 i0 (.string ⟨#[]⟩) 1 16 Tryd.underlying22 HIN.out.1 HIN.out.2.1 HIN.out.2.2.1 HIN.out.2.2.2 rfl (by decide) (some ⟨rb, 0, none⟩) 0 0 (tvs ([] : List Mk.T)) rfl (by intro e; first | (cases e; done) | exact ⟨rfl, rfl⟩) (by rw [tvs_len]; have := HLN.out.2.1; omega) H4.out.2.2.2.2.2 ⟨b4, 0, none⟩ 1 1 [.string (S x)] rfl rfl HMADE.out (by simp [Value.oneCell']) (by omega) (by simp only [maxLen]; omega) (by omega) ?_
      intro v5 w5 hown5 hg5
      have hb5 := belowG hg5
      have hx5 : FrM f g w5 := (H4.out.1.below hb5 H4.out.1.lt).cell 0
      have H5 : Hid (Has w5 f 70 (frc g (n + 1) (.slice (some ⟨rb, 0, none⟩) vn cap)) ∧ MkW w5 g nb none [] st ∧ Mv w0 w5 [g, nb, f] ∧ Reads w5 (some ⟨rb, 0, none⟩) KS) := Lib.hid ⟨H4.out.1.below hb5 H4.out.1.lt, H4.out.2.1.below hb5, H4.out.2.2.1.trans (Mv.of_below hb5 _), H4.out.2.2.2.1.keep hb5⟩
      have hgl := H4.out.2.1.m.lt
      rw [tvs_snoc, HZ.out.1] at hown5
      have hown5' : w5.ownsRow w4.heap.size 9 1 v5 (zn + 1) (tvs (z :: Z)) := by have h2 := HZ.out.2; rw [h2]; exact hown5
      obtain ⟨A5, cap5, rfl, hc5, hcm5, _, hr5⟩ := own_row hown5' (by rw [List.length_cons, HZ2.out])
      obtain ⟨jb, rfl, hjlt, hjb, hjrow⟩ := hr5 (by simp)
      have hjn : jb ∉ [g, nb] := by simp only [List.mem_cons, List.not_mem_nil, or_false]; omega
      refine hK.out _ _ hx5 (fun hHeld => ?_)
      clear hK KS' hown5 hown5' hr5 hb5 hg5 H4 hx4 HMADE hjb hgl
      try simp only [Act.put, List.setIfInBounds_toArray, List.set_cons_zero, List.set_cons_succ]
      refine take_call (i := 10) (by kernel_rfl) rfl rfl (by rfl) (fun K hK => ?_)
      go_simp
      refine (HJ.out w5 jb cap5 hjn hc5 hcm5 hjrow hjlt H5.out.2.1).mono ?_
      rintro r w6 ⟨ts, rfl, hts, hm6, hv6⟩
      have H6 : Hid (Has w6 f 70 (frc g (n + 1) (.slice (some ⟨rb, 0, none⟩) vn cap)) ∧ MkW w6 g nb none [] (Mill.steps [] ts st) ∧ Mv w0 w6 [g, nb, f] ∧ Reads w6 (some ⟨rb, 0, none⟩) KS) := Lib.hid ⟨hv6.has H5.out.1 HLN.out.2.2.1, hm6, H5.out.2.2.1.trans (hv6.wide (by simp)), HRK.out w5 w6 H5.out.2.2.1 hv6 H5.out.2.2.2⟩
      have hx6 : FrM f g w6 := H6.out.1.cell 0
      clear hx5 H5 hHeld hjrow hjlt hv6 hm6 hjn hc5 hcm5
      refine hK.out _ _ hx6 (fun hHeld => ?_)
      clear hK K
      try simp only [Act.put, List.setIfInBounds_toArray, List.set_cons_zero, List.set_cons_succ]
      refine heldOne (i := 11) (by kernel_rfl) rfl (by rfl) (fun KS' hK => ?_)
      go_simp
      have hb7 := belowB w6 (.cells #[.string (S y)] 9)
      have hx7 : FrM f g (w6.alloc (.cells #[.string (S y)] 9)) := (H6.out.1.below hb7 H6.out.1.lt).cell 0
      refine hK.out _ _ hx7 (fun hHeld => ?_)
      clear hK KS' hx6
      try simp only [Act.put, List.setIfInBounds_toArray, List.set_cons_zero, List.set_cons_succ]
      have HMADE := Lib.hid (made_one w6 y)
      have H7 : Hid (Has (w6.alloc (.cells #[.string (S y)] 9)) f 70 (frc g (n + 1) (.slice (some ⟨rb, 0, none⟩) vn cap)) ∧ MkW (w6.alloc (.cells #[.string (S y)] 9)) g nb none [] (Mill.steps [] ts st) ∧ Mv w0 (w6.alloc (.cells #[.string (S y)] 9)) [g, nb, f] ∧ Reads (w6.alloc (.cells #[.string (S y)] 9)) (some ⟨rb, 0, none⟩) KS) := Lib.hid ⟨H6.out.1.below hb7 H6.out.1.lt, H6.out.2.1.below hb7, H6.out.2.2.1.trans (Mv.of_below hb7 _), H6.out.2.2.2.keep hb7⟩
      clear H6 hb7
      generalize w6.heap.size = b7 at HMADE ⊢
      generalize w6.alloc (.cells #[.string (S y)] 9) = w7 at H7 HMADE hx7 ⊢
      refine heldOne (i := 12) (by kernel_rfl) rfl (by rfl) (fun KS' hK => ?_)
      refine wp_append_grows w7 (.tmp 53) (.tmp 63) 22 rfl 9 i0 (.string ⟨#[]⟩) 1 16 Tryd.underlying22 HIN.out.1 HIN.out.2.1 HIN.out.2.2.1 HIN.out.2.2.2 rfl (by decide) (some ⟨rb, 0, none⟩) vn vn (tvs KS) rfl (by intro e; first | (cases e; done) | exact ⟨rfl, rfl⟩) (by rw [tvs_len]; have := HLN.out.1; omega) H7.out.2.2.2.2 ⟨b7, 0, none⟩ 1 1 [.string (S y)] rfl rfl HMADE.out (by simp [Value.oneCell']) (by omega) (by simp only [maxLen]; omega) (by omega) ?_
      intro v8 w8 hown8 hg8
      have hb8 := belowG hg8
      have hx8 : FrM f g w8 := (H7.out.1.below hb8 H7.out.1.lt).cell 0
      have H8 : Hid (Has w8 f 70 (frc g (n + 1) (.slice (some ⟨rb, 0, none⟩) vn cap)) ∧ MkW w8 g nb none [] (Mill.steps [] ts st) ∧ Mv w0 w8 [g, nb, f]) := Lib.hid ⟨H7.out.1.below hb8 H7.out.1.lt, H7.out.2.1.below hb8, H7.out.2.2.1.trans (Mv.of_below hb8 _)⟩
      have hB8 := H7.out.2.2.1.size
      rw [tvs_snoc] at hown8
      refine hK.out _ _ hx8 (fun hHeld => ?_)
      clear hK KS' hx7 HMADE hb8 hg8 H7
      try simp only [Act.put, List.setIfInBounds_toArray, List.set_cons_zero, List.set_cons_succ]
      obtain ⟨A8, cap8, rfl, _, _, _, _⟩ := own_row hown8 (by rw [List.length_append]; have hk' := HLN.out.1; rw [hk']; rfl)
      first
      | (refine take_wanted (i := 13) (v := ?_) rfl rfl (by kernel_rfl) (by kernel_rfl) (by kernel_rfl) (fun _ _ _ h => h) (by rfl) (by assumption) ?_ ?_; rotate_left; (focus (intro w hSw; (try dsimp only at hSw); go_simp; first | done | with_reducible rfl)); (simp only [Act.at, List.setIfInBounds_toArray, List.set_cons_zero, List.set_cons_succ]))
      | (refine take_unwanted (i := 13) rfl rfl (by kernel_rfl) (by kernel_rfl) (by kernel_rfl) (fun _ _ _ h => h) (by rfl) (by assumption) ?_; (simp only [Act.at, List.setIfInBounds_toArray, List.set_cons_zero, List.set_cons_succ]))
      first
      | (refine take_wanted (i := 14) (v := ?_) rfl rfl (by kernel_rfl) (by kernel_rfl) (by kernel_rfl) (fun _ _ _ h => h) (by rfl) (by assumption) ?_ ?_; rotate_left; (focus (intro w hSw; (try dsimp only at hSw); go_simp; first | done | with_reducible rfl)); (simp only [Act.at, List.setIfInBounds_toArray, List.set_cons_zero, List.set_cons_succ]))
      | (refine take_unwanted (i := 14) rfl rfl (by kernel_rfl) (by kernel_rfl) (by kernel_rfl) (fun _ _ _ h => h) (by rfl) (by assumption) ?_; (simp only [Act.at, List.setIfInBounds_toArray, List.set_cons_zero, List.set_cons_succ]))
      have f2 : w8.frozen? ⟨f, 2, none⟩ = false := H8.out.1.free 2
      have d2 : w8.cell? ⟨f, 2, none⟩ = some (.slice (some ⟨rb, 0, none⟩) vn cap) := H8.out.1.cell 2
      refine heldOne (i := 15) (by kernel_rfl) rfl (by rfl) (fun KS' hK => ?_)
      go_simp
      have hx9 : FrM f g (w8.setCell ⟨f, 2, none⟩ (.slice A8 (vn + 1) cap8)) := (H8.out.1.set 2 (.slice A8 (vn + 1) cap8)).cell 0
      have HF9 := HFIN.out w8 _ ts hts H8.out (own_low hown8 hB8)
      refine hK.out _ _ hx9 (fun hHeld => ?_)
      clear hK KS' H8 hown8 f2 d2 hx8 hx9
      try simp only [Act.put, List.setIfInBounds_toArray, List.set_cons_zero, List.set_cons_succ]
      refine wpAnyH_done (by kernel_rfl) ?_ _
      go_wp2_with fail
      go_returns
      exact HF9
    · have e3 : vn = kn + jn := by omega
      subst e3
      have HLN : Hid (KS.length = kn ∧ JS.length = jn ∧ f ∉ [g, nb] ∧ zn = jn) := Lib.hid ⟨hkn, hjn, hlow, HZ.out.2⟩
      have HRD : Hid (∀ W : World, Mv w W [g, nb, f] → Reads W (some ⟨rb, 0, none⟩) KS ∧ Reads W (some ⟨rb, kn, none⟩) JS) := Lib.hid (fun W hW => by
        have hr := hrow0.mv hW hrlt hrn
        refine ⟨Reads.of_row hr.front, Reads.of_row ?_⟩
        have := hr.drop KS.length
        rwa [List.drop_left, hkn, Nat.zero_add] at this)
      have hkc : kn ≤ cap := by omega
      have hne : ¬ kn + jn = kn := by omega
      clear h0 hpk0 hL0 hL1 HCASE hkn hjn hvlen hl1 hrow0 hR0
      go_enter Tryd.func16, Tryd.ntmps16
      go_wp2_with fail
      refine (HGR.out).mono ?_
      rintro r w0 ⟨rfl, rfl⟩
      go_upto_region 2 with (fail)
      generalize w0.setCell ⟨f, 1, none⟩ (.int .i64 ((n : Int) + 1)) = w1 at H1 ⊢
      have c0 : w1.cell? ⟨f, 0, none⟩ = some (.pointer (some ⟨g, 0, none⟩)) := H1.out.1.cell 0
      have d1 : w1.cell? ⟨f, 1, none⟩ = some (.int .i64 ((n : Int) + 1)) := H1.out.1.cell 1
      have d2 : w1.cell? ⟨f, 2, none⟩ = some (.slice (some ⟨rb, 0, none⟩) (kn + jn) cap) := H1.out.1.cell 2
      clear c1 f1
      go_quiet ((go_at_call 39; exact Calls.quiet_of_same (HTZ.out _ (show Deb _ from H1.out.2.2.2))))
      have hb2 := belowN (Below.refl w1.heap.size w1) nq
      replace c0 : (w1.drewN nq).cell? ⟨f, 0, none⟩ = some (.pointer (some ⟨g, 0, none⟩)) := c0
      replace d2 : (w1.drewN nq).cell? ⟨f, 2, none⟩ = some (.slice (some ⟨rb, 0, none⟩) (kn + jn) cap) := d2
      generalize w1.drewN nq = w2 at hb2 c0 d2 ⊢
      clear d1
      go_upto_region 3 with (fail)
      go_quiet (fail)
      have hb3 := belowN (Below.refl w2.heap.size w2) nq
      generalize w2.drewN nq = w3 at hb3 ⊢
      have HK := (Mv.of_below hb2 [g, nb, f]).trans (Mv.of_below hb3 [g, nb, f])
      replace H1 := Lib.hid (And.intro ((H1.out.1.below hb2 H1.out.1.lt).below hb3 (H1.out.1.below hb2 H1.out.1.lt).lt) (And.intro ((H1.out.2.1.below hb2).below hb3) (H1.out.2.2.1.trans HK)))
      clear c0 d2 hb2 hb3 HK
      go_upto_region 4 with (fail)
      rw [show kn + jn - kn = jn from by omega]
      have HRd := HRD.out w3 H1.out.2.2
      have hx : FrM f g w3.drew := H1.out.1.cell 0
      refine wp_region_held_drew (S := FrM f g) (by kernel_rfl) hx (fun hHeld => ?_)
      have hbd : Below w3.heap.size w3 w3.drew := Below.drew (Below.refl _ _)
      have HK : Hid (Has w3.drew f 70 (frc g (n + 1) (.slice (some ⟨rb, 0, none⟩) (kn + jn) cap)) ∧ MkW w3.drew g nb none [] st ∧ Mv w0 w3.drew [g, nb, f] ∧ Reads w3.drew (some ⟨rb, 0, none⟩) KS ∧ Reads w3.drew (some ⟨rb, kn, none⟩) JS) := Lib.hid ⟨H1.out.1.below hbd H1.out.1.lt, H1.out.2.1.below hbd, H1.out.2.2.trans (Mv.of_below hbd _), HRd.1.keep hbd, HRd.2.keep hbd⟩
      clear H1 hbd HRd HRD
      generalize w3.drew = wd at HK hx hHeld ⊢
      first
      | (refine take_wanted (i := 0) (v := ?_) rfl rfl (by kernel_rfl) (by kernel_rfl) (by kernel_rfl) (fun _ _ _ h => h) (by rfl) (by assumption) ?_ ?_; rotate_left; (focus (intro w hSw; (try dsimp only at hSw); go_simp; first | done | with_reducible rfl)); (simp only [Act.at, List.setIfInBounds_toArray, List.set_cons_zero, List.set_cons_succ]))
      | (refine take_unwanted (i := 0) rfl rfl (by kernel_rfl) (by kernel_rfl) (by kernel_rfl) (fun _ _ _ h => h) (by rfl) (by assumption) ?_; (simp only [Act.at, List.setIfInBounds_toArray, List.set_cons_zero, List.set_cons_succ]))
      first
      | (refine take_wanted (i := 1) (v := ?_) rfl rfl (by kernel_rfl) (by kernel_rfl) (by kernel_rfl) (fun _ _ _ h => h) (by rfl) (by assumption) ?_ ?_; rotate_left; (focus (intro w hSw; (try dsimp only at hSw); go_simp; first | done | with_reducible rfl)); (simp only [Act.at, List.setIfInBounds_toArray, List.set_cons_zero, List.set_cons_succ]))
      | (refine take_unwanted (i := 1) rfl rfl (by kernel_rfl) (by kernel_rfl) (by kernel_rfl) (fun _ _ _ h => h) (by rfl) (by assumption) ?_; (simp only [Act.at, List.setIfInBounds_toArray, List.set_cons_zero, List.set_cons_succ]))
      first
      | (refine take_wanted (i := 2) (v := ?_) rfl rfl (by kernel_rfl) (by kernel_rfl) (by kernel_rfl) (fun _ _ _ h => h) (by rfl) (by assumption) ?_ ?_; rotate_left; (focus (intro w hSw; (try dsimp only at hSw); go_simp; first | done | with_reducible rfl)); (simp only [Act.at, List.setIfInBounds_toArray, List.set_cons_zero, List.set_cons_succ]))
      | (refine take_unwanted (i := 2) rfl rfl (by kernel_rfl) (by kernel_rfl) (by kernel_rfl) (fun _ _ _ h => h) (by rfl) (by assumption) ?_; (simp only [Act.at, List.setIfInBounds_toArray, List.set_cons_zero, List.set_cons_succ]))
      first
      | (refine take_wanted (i := 3) (v := ?_) rfl rfl (by kernel_rfl) (by kernel_rfl) (by kernel_rfl) (fun _ _ _ h => h) (by rfl) (by assumption) ?_ ?_; rotate_left; (focus (intro w hSw; (try dsimp only at hSw); go_simp; first | done | with_reducible rfl)); (simp only [Act.at, List.setIfInBounds_toArray, List.set_cons_zero, List.set_cons_succ]))
      | (refine take_unwanted (i := 3) rfl rfl (by kernel_rfl) (by kernel_rfl) (by kernel_rfl) (fun _ _ _ h => h) (by rfl) (by assumption) ?_; (simp only [Act.at, List.setIfInBounds_toArray, List.set_cons_zero, List.set_cons_succ]))
      first
      | (refine take_wanted (i := 4) (v := ?_) rfl rfl (by kernel_rfl) (by kernel_rfl) (by kernel_rfl) (fun _ _ _ h => h) (by rfl) (by assumption) ?_ ?_; rotate_left; (focus (intro w hSw; (try dsimp only at hSw); go_simp; first | done | with_reducible rfl)); (simp only [Act.at, List.setIfInBounds_toArray, List.set_cons_zero, List.set_cons_succ]))
      | (refine take_unwanted (i := 4) rfl rfl (by kernel_rfl) (by kernel_rfl) (by kernel_rfl) (fun _ _ _ h => h) (by rfl) (by assumption) ?_; (simp only [Act.at, List.setIfInBounds_toArray, List.set_cons_zero, List.set_cons_succ]))
      first
      | (refine take_wanted (i := 5) (v := ?_) rfl rfl (by kernel_rfl) (by kernel_rfl) (by kernel_rfl) (fun _ _ _ h => h) (by rfl) (by assumption) ?_ ?_; rotate_left; (focus (intro w hSw; (try dsimp only at hSw); go_simp; first | done | with_reducible rfl)); (simp only [Act.at, List.setIfInBounds_toArray, List.set_cons_zero, List.set_cons_succ]))
      | (refine take_unwanted (i := 5) rfl rfl (by kernel_rfl) (by kernel_rfl) (by kernel_rfl) (fun _ _ _ h => h) (by rfl) (by assumption) ?_; (simp only [Act.at, List.setIfInBounds_toArray, List.set_cons_zero, List.set_cons_succ]))
      first
      | (refine take_wanted (i := 6) (v := ?_) rfl rfl (by kernel_rfl) (by kernel_rfl) (by kernel_rfl) (fun _ _ _ h => h) (by rfl) (by assumption) ?_ ?_; rotate_left; (focus (intro w hSw; (try dsimp only at hSw); go_simp; first | done | with_reducible rfl)); (simp only [Act.at, List.setIfInBounds_toArray, List.set_cons_zero, List.set_cons_succ]))
      | (refine take_unwanted (i := 6) rfl rfl (by kernel_rfl) (by kernel_rfl) (by kernel_rfl) (fun _ _ _ h => h) (by rfl) (by assumption) ?_; (simp only [Act.at, List.setIfInBounds_toArray, List.set_cons_zero, List.set_cons_succ]))
      first
      | (refine take_wanted (i := 7) (v := ?_) rfl rfl (by kernel_rfl) (by kernel_rfl) (by kernel_rfl) (fun _ _ _ h => h) (by rfl) (by assumption) ?_ ?_; rotate_left; (focus (intro w hSw; (try dsimp only at hSw); go_simp; first | done | with_reducible rfl)); (simp only [Act.at, List.setIfInBounds_toArray, List.set_cons_zero, List.set_cons_succ]))
      | (refine take_unwanted (i := 7) rfl rfl (by kernel_rfl) (by kernel_rfl) (by kernel_rfl) (fun _ _ _ h => h) (by rfl) (by assumption) ?_; (simp only [Act.at, List.setIfInBounds_toArray, List.set_cons_zero, List.set_cons_succ]))
      refine heldOne (i := 8) (by kernel_rfl) rfl (by rfl) (fun KS' hK => ?_)
      go_simp
      have hb4 := belowB wd (.cells #[.string (S x)] 9)
      have hx4 : FrM f g (wd.alloc (.cells #[.string (S x)] 9)) := (HK.out.1.below hb4 HK.out.1.lt).cell 0
      refine hK.out _ _ hx4 (fun hHeld => ?_)
      clear hK KS'
      try simp only [Act.put, List.setIfInBounds_toArray, List.set_cons_zero, List.set_cons_succ]
      have HMADE := Lib.hid (made_one wd x)
      have H4 : Hid (Has (wd.alloc (.cells #[.string (S x)] 9)) f 70 (frc g (n + 1) (.slice (some ⟨rb, 0, none⟩) (kn + jn) cap)) ∧ MkW (wd.alloc (.cells #[.string (S x)] 9)) g nb none [] st ∧ Mv w0 (wd.alloc (.cells #[.string (S x)] 9)) [g, nb, f] ∧ Reads (wd.alloc (.cells #[.string (S x)] 9)) (some ⟨rb, 0, none⟩) KS ∧ Reads (wd.alloc (.cells #[.string (S x)] 9)) (some ⟨rb, kn, none⟩) JS) := Lib.hid ⟨HK.out.1.below hb4 HK.out.1.lt, HK.out.2.1.below hb4, HK.out.2.2.1.trans (Mv.of_below hb4 _), HK.out.2.2.2.1.keep hb4, HK.out.2.2.2.2.keep hb4⟩
      clear HK hx hb4
      generalize wd.heap.size = b4 at HMADE ⊢
      generalize wd.alloc (.cells #[.string (S x)] 9) = w4 at H4 HMADE hx4 ⊢
      refine heldOne (i := 9) (by kernel_rfl) rfl (by rfl) (fun KS' hK => ?_)
      refine wp_append_grows w4 (.tmp 58) (.tmp 60) 22 rfl 9 i0 (.string ⟨#[]⟩) 1 16 Tryd.underlying22 HIN.out.1 HIN.out.2.1 HIN.out.2.2.1 HIN.out.2.2.2 rfl (by decide) (some ⟨rb, kn, none⟩) jn jn (tvs JS) rfl (by intro e; first | (cases e; done) | exact ⟨rfl, rfl⟩) (by rw [tvs_len]; have := HLN.out.2.1; omega) H4.out.2.2.2.2.2 ⟨b4, 0, none⟩ 1 1 [.string (S x)] rfl rfl HMADE.out (by simp [Value.oneCell']) (by omega) (by simp only [maxLen]; omega) (by omega) ?_
      intro v5 w5 hown5 hg5
      have hb5 := belowG hg5
      have hx5 : FrM f g w5 := (H4.out.1.below hb5 H4.out.1.lt).cell 0
      have H5 : Hid (Has w5 f 70 (frc g (n + 1) (.slice (some ⟨rb, 0, none⟩) (kn + jn) cap)) ∧ MkW w5 g nb none [] st ∧ Mv w0 w5 [g, nb, f] ∧ Reads w5 (some ⟨rb, 0, none⟩) KS) := Lib.hid ⟨H4.out.1.below hb5 H4.out.1.lt, H4.out.2.1.below hb5, H4.out.2.2.1.trans (Mv.of_below hb5 _), H4.out.2.2.2.1.keep hb5⟩
      have hgl := H4.out.2.1.m.lt
      rw [tvs_snoc, HZ.out.1] at hown5
      have hown5' : w5.ownsRow w4.heap.size 9 1 v5 (zn + 1) (tvs (z :: Z)) := by have h2 := HZ.out.2; rw [h2]; exact hown5
      obtain ⟨A5, cap5, rfl, hc5, hcm5, _, hr5⟩ := own_row hown5' (by rw [List.length_cons, HZ2.out])
      obtain ⟨jb, rfl, hjlt, hjb, hjrow⟩ := hr5 (by simp)
      have hjn : jb ∉ [g, nb] := by simp only [List.mem_cons, List.not_mem_nil, or_false]; omega
      refine hK.out _ _ hx5 (fun hHeld => ?_)
      clear hK KS' hown5 hown5' hr5 hb5 hg5 H4 hx4 HMADE hjb hgl
      try simp only [Act.put, List.setIfInBounds_toArray, List.set_cons_zero, List.set_cons_succ]
      refine take_call (i := 10) (by kernel_rfl) rfl rfl (by rfl) (fun K hK => ?_)
      go_simp
      refine (HJ.out w5 jb cap5 hjn hc5 hcm5 hjrow hjlt H5.out.2.1).mono ?_
      rintro r w6 ⟨ts, rfl, hts, hm6, hv6⟩
      have H6 : Hid (Has w6 f 70 (frc g (n + 1) (.slice (some ⟨rb, 0, none⟩) (kn + jn) cap)) ∧ MkW w6 g nb none [] (Mill.steps [] ts st) ∧ Mv w0 w6 [g, nb, f] ∧ Reads w6 (some ⟨rb, 0, none⟩) KS) := Lib.hid ⟨hv6.has H5.out.1 HLN.out.2.2.1, hm6, H5.out.2.2.1.trans (hv6.wide (by simp)), HRK.out w5 w6 H5.out.2.2.1 hv6 H5.out.2.2.2⟩
      have hx6 : FrM f g w6 := H6.out.1.cell 0
      clear hx5 H5 hHeld hjrow hjlt hv6 hm6 hjn hc5 hcm5
      refine hK.out _ _ hx6 (fun hHeld => ?_)
      clear hK K
      try simp only [Act.put, List.setIfInBounds_toArray, List.set_cons_zero, List.set_cons_succ]
      refine heldOne (i := 11) (by kernel_rfl) rfl (by rfl) (fun KS' hK => ?_)
      go_simp
      have hb7 := belowB w6 (.cells #[.string (S y)] 9)
      have hx7 : FrM f g (w6.alloc (.cells #[.string (S y)] 9)) := (H6.out.1.below hb7 H6.out.1.lt).cell 0
      refine hK.out _ _ hx7 (fun hHeld => ?_)
      clear hK KS' hx6
      try simp only [Act.put, List.setIfInBounds_toArray, List.set_cons_zero, List.set_cons_succ]
      have HMADE := Lib.hid (made_one w6 y)
      have H7 : Hid (Has (w6.alloc (.cells #[.string (S y)] 9)) f 70 (frc g (n + 1) (.slice (some ⟨rb, 0, none⟩) (kn + jn) cap)) ∧ MkW (w6.alloc (.cells #[.string (S y)] 9)) g nb none [] (Mill.steps [] ts st) ∧ Mv w0 (w6.alloc (.cells #[.string (S y)] 9)) [g, nb, f] ∧ Reads (w6.alloc (.cells #[.string (S y)] 9)) (some ⟨rb, 0, none⟩) KS) := Lib.hid ⟨H6.out.1.below hb7 H6.out.1.lt, H6.out.2.1.below hb7, H6.out.2.2.1.trans (Mv.of_below hb7 _), H6.out.2.2.2.keep hb7⟩
      clear H6 hb7
      generalize w6.heap.size = b7 at HMADE ⊢
      generalize w6.alloc (.cells #[.string (S y)] 9) = w7 at H7 HMADE hx7 ⊢
      refine heldOne (i := 12) (by kernel_rfl) rfl (by rfl) (fun KS' hK => ?_)
      refine wp_append_grows w7 (.tmp 53) (.tmp 63) 22 rfl 9 i0 (.string ⟨#[]⟩) 1 16 Tryd.underlying22 HIN.out.1 HIN.out.2.1 HIN.out.2.2.1 HIN.out.2.2.2 rfl (by decide) (some ⟨rb, 0, none⟩) kn kn (tvs KS) rfl (by intro e; first | (cases e; done) | exact ⟨rfl, rfl⟩) (by rw [tvs_len]; have := HLN.out.1; omega) H7.out.2.2.2.2 ⟨b7, 0, none⟩ 1 1 [.string (S y)] rfl rfl HMADE.out (by simp [Value.oneCell']) (by omega) (by simp only [maxLen]; omega) (by omega) ?_
      intro v8 w8 hown8 hg8
      have hb8 := belowG hg8
      have hx8 : FrM f g w8 := (H7.out.1.below hb8 H7.out.1.lt).cell 0
      have H8 : Hid (Has w8 f 70 (frc g (n + 1) (.slice (some ⟨rb, 0, none⟩) (kn + jn) cap)) ∧ MkW w8 g nb none [] (Mill.steps [] ts st) ∧ Mv w0 w8 [g, nb, f]) := Lib.hid ⟨H7.out.1.below hb8 H7.out.1.lt, H7.out.2.1.below hb8, H7.out.2.2.1.trans (Mv.of_below hb8 _)⟩
      have hB8 := H7.out.2.2.1.size
      rw [tvs_snoc] at hown8
      refine hK.out _ _ hx8 (fun hHeld => ?_)
      clear hK KS' hx7 HMADE hb8 hg8 H7
      try simp only [Act.put, List.setIfInBounds_toArray, List.set_cons_zero, List.set_cons_succ]
      obtain ⟨A8, cap8, rfl, _, _, _, _⟩ := own_row hown8 (by rw [List.length_append]; have hk' := HLN.out.1; rw [hk']; rfl)
      first
      | (refine take_wanted (i := 13) (v := ?_) rfl rfl (by kernel_rfl) (by kernel_rfl) (by kernel_rfl) (fun _ _ _ h => h) (by rfl) (by assumption) ?_ ?_; rotate_left; (focus (intro w hSw; (try dsimp only at hSw); go_simp; first | done | with_reducible rfl)); (simp only [Act.at, List.setIfInBounds_toArray, List.set_cons_zero, List.set_cons_succ]))
      | (refine take_unwanted (i := 13) rfl rfl (by kernel_rfl) (by kernel_rfl) (by kernel_rfl) (fun _ _ _ h => h) (by rfl) (by assumption) ?_; (simp only [Act.at, List.setIfInBounds_toArray, List.set_cons_zero, List.set_cons_succ]))
      first
      | (refine take_wanted (i := 14) (v := ?_) rfl rfl (by kernel_rfl) (by kernel_rfl) (by kernel_rfl) (fun _ _ _ h => h) (by rfl) (by assumption) ?_ ?_; rotate_left; (focus (intro w hSw; (try dsimp only at hSw); go_simp; first | done | with_reducible rfl)); (simp only [Act.at, List.setIfInBounds_toArray, List.set_cons_zero, List.set_cons_succ]))
      | (refine take_unwanted (i := 14) rfl rfl (by kernel_rfl) (by kernel_rfl) (by kernel_rfl) (fun _ _ _ h => h) (by rfl) (by assumption) ?_; (simp only [Act.at, List.setIfInBounds_toArray, List.set_cons_zero, List.set_cons_succ]))
      have f2 : w8.frozen? ⟨f, 2, none⟩ = false := H8.out.1.free 2
      have d2 : w8.cell? ⟨f, 2, none⟩ = some (.slice (some ⟨rb, 0, none⟩) (kn + jn) cap) := H8.out.1.cell 2
      refine heldOne (i := 15) (by kernel_rfl) rfl (by rfl) (fun KS' hK => ?_)
      go_simp
      have hx9 : FrM f g (w8.setCell ⟨f, 2, none⟩ (.slice A8 (kn + 1) cap8)) := (H8.out.1.set 2 (.slice A8 (kn + 1) cap8)).cell 0
      have HF9 := HFIN.out w8 _ ts hts H8.out (own_low hown8 hB8)
      refine hK.out _ _ hx9 (fun hHeld => ?_)
      clear hK KS' H8 hown8 f2 d2 hx8 hx9
      try simp only [Act.put, List.setIfInBounds_toArray, List.set_cons_zero, List.set_cons_succ]
      refine wpAnyH_done (by kernel_rfl) ?_ _
      go_wp2_with fail
      go_returns
      exact HF9
end Go.Proofs.YtphhaiccpllnpaaDoor
