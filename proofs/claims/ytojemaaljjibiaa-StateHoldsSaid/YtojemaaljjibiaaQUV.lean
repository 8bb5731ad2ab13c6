/-
  QUV: the texts StaQU, StaQV, StaSn in one.
-/
import Derived.Test.YtojemaaljjibiaaStaQT
import Derived.Test.YtojemaaljjibiaaQEG
import Derived.Test.YtojemaaljjibiaaArgs
import Derived.Test.YtojemaaljjibiaaStaTwo
import Derived.Test.YtojemaaljjibiaaEvRefs
namespace Go.Proofs.Ytojemaaljjibiaa
open Go.RowKit
set_option linter.unusedVariables false

section
variable {w : World} {q : Nat} {s ot : List Nat} {st : Sta} {n : Nat}
theorem stApply (h : StAt w q s ot st n) (hI : Sta.Inv st) (hQ : st.Q.length ≤ 1000) (hn : n ≤ 1000) {v : Evt} {A B : Option Addr} {ca cb : Nat} (hin : EntIn w ((q :: s) ++ ot) v.ent A ca B cb) (hf : EvtFew v) :
    Calls Try.prog 13 #[.pointer (some ⟨q, 0, none⟩), v.val A ca B cb] w fun r w' => r = .returned (.int .i64 (Sta.check st v)) ∧ ∃ s', StAt w' q s' ot (Sta.step st v) (if Sta.check st v = 0 then n + 1 else n) ∧ Mv w w' (q :: s) ∧ ∀ x ∈ s', x ∈ s ∨ w.heap.size ≤ x := by
  by_cases hc : Sta.check st v = 0
  · rw [if_pos hc, show Sta.step st v = Sta.apply st v from by unfold Sta.step; rw [if_pos hc], hc]
    by_cases k1 : v.kind = 1
    · exact stApply1 h hI hQ hn hin hf hc k1
    by_cases k6 : v.kind = 6
    · exact stApply6 h hI hQ hn hin hf hc k6
    by_cases k7 : v.kind = 7
    · exact stApply7 h hI hQ hn hin hf hc k7
    · exact stApplyC h hI hQ hn hin hf hc k1 k6 k7
  · rw [if_neg hc, show Sta.step st v = st from by unfold Sta.step; rw [if_neg hc]]
    exact stApplyNo h hI hQ hn hin hf rfl hc
end
end Go.Proofs.Ytojemaaljjibiaa

namespace Go.Proofs.Ytojemaaljjibiaa
open Go.RowKit
set_option linter.unusedVariables false

theorem evInfo16 : (Try.prog.info? 37).map (fun i => (i.zero, i.size, i.bytes)) = some (some (.agg #[.int .i64 0, .string ⟨#[]⟩, .int .i64 0, .int .i64 0, .int .i64 0, .slice none 0 0, .bool false, .slice none 0 0, .int .i64 0, .int .i64 0, .string ⟨#[]⟩, .int .i64 0, .string ⟨#[]⟩, .int .i64 0]), 14, 168) := by kernel_rfl
theorem vxs_snoc (L : List EvX) (x : EvX) : vxs L ++ x.cs = vxs (L ++ [x]) := by unfold vxs; rw [List.flatMap_append, List.flatMap_singleton]
theorem evx_one (x : EvX) : ∀ u ∈ x.cs, u.oneCell' = true := by
  intro u hu
  unfold EvX.cs at hu
  simp only [List.mem_cons, List.not_mem_nil, or_false] at hu
  rcases hu with rfl | rfl | rfl | rfl | rfl | rfl | rfl | rfl | rfl | rfl | rfl | rfl | rfl | rfl <;> rfl
theorem evxMade (w : World) (x : EvX) : ∀ (j : Nat) (u : Value), x.cs[j]? = some u → (w.alloc (.cells #[.int .i64 x.v.kind, .string (S x.v.ent.id), .int .i64 x.v.ent.cls, .int .i64 x.v.ent.born, .int .i64 x.v.ent.slot, .slice x.A x.v.ent.L.length x.ca, .bool x.v.ent.gone, .slice x.B x.v.ent.H.length x.cb, .int .i64 x.v.seq, .int .i64 x.v.idx, .string (S x.v.name), .int .i64 x.v.size, .string (S x.v.root), .int .i64 x.v.now] 37)).cell? ((⟨w.heap.size, 0, none⟩ : Addr).add j) = some u := by
  intro j u hu
  rw [add_flat', Nat.zero_add, (Has.made w 37 _).cell j]
  rw [← hu]
  unfold EvX.cs
  exact List.getElem?_toArray ..
theorem EntIn.none_ (w : World) (s : List Nat) : EntIn w s Ent.zero none 0 none 0 := ⟨RowC.nil _ _ _, RowC.nil _ _ _, Nat.le_refl _, Nat.zero_le _, Nat.le_refl _, Nat.zero_le _⟩
section
variable {w : World} {q : Nat} {s ot : List Nat} {st : Sta} {n : Nat}
/-- The events that were laid so far. -/
structure Spd (w : World) (q : Nat) (t : List Nat) (V : List Evt) (v : Value) (wr : World) : Prop where
  ex : ∃ out : List EvX, out.map EvX.v = V ∧ wr.ownsRow w.heap.size 37 14 v V.length (vxs out) ∧ ∀ x ∈ out, EntIn wr ((q :: v.ownBlock.toList) ++ t) x.v.ent x.A x.ca x.B x.cb
  bl : Below w.heap.size w wr
theorem Spd.start (w : World) (q : Nat) (t : List Nat) (now : Int) : Spd w q t [Sta.clockE now] (.slice (some ⟨w.heap.size, 0, none⟩) 1 1) (w.alloc (.cells #[.int .i64 7, .string (S []), .int .i64 0, .int .i64 0, .int .i64 0, .slice none 0 0, .bool false, .slice none 0 0, .int .i64 0, .int .i64 0, .string (S []), .int .i64 0, .string (S []), .int .i64 now] 37)) :=
  ⟨⟨[⟨Sta.clockE now, none, 0, none, 0⟩], rfl, ⟨rfl, .inr ⟨w.heap.size, 1, #[.int .i64 7, .string (S []), .int .i64 0, .int .i64 0, .int .i64 0, .slice none 0 0, .bool false, .slice none 0 0, .int .i64 0, .int .i64 0, .string (S []), .int .i64 0, .string (S []), .int .i64 now], rfl, Nat.le_refl _, Has.made w _ _, Nat.le_refl _, by decide, rfl, rfl⟩⟩, fun x hx => by rw [List.mem_singleton.1 hx]; exact EntIn.none_ _ _⟩, (Below.refl _ w).alloc (Nat.le_refl _) _⟩
theorem Spd.more {t : List Nat} {V : List Evt} {v : Value} {wr W2 w4 : World} {out : List EvX} {y : EvX} {g cap : Nat} {o : Obj} (hlt : ∀ x ∈ q :: t, x < w.heap.size) (h1 : out.map EvX.v = V) (h2 : wr.ownsRow w.heap.size 37 14 v V.length (vxs out)) (h3 : ∀ x ∈ out, EntIn wr ((q :: v.ownBlock.toList) ++ t) x.v.ent x.A x.ca x.B x.cb) (hb : Below w.heap.size w wr)
    (hb2 : Below wr.heap.size wr W2) (hy' : EntIn W2 ((q :: v.ownBlock.toList) ++ t) y.v.ent y.A y.ca y.B y.cb) (ho : w4.ownsRow w.heap.size 37 14 (.slice (some ⟨g, 0, none⟩) (V.length + 1) cap) (V.length + 1) (vxs out ++ y.cs)) (hg : (W2.alloc o).grownBy w4 v.ownBlock) (hat : v.ownBlock = some g ∨ g = (W2.alloc o).heap.size) :
    Spd w q t (V ++ [y.v]) (.slice (some ⟨g, 0, none⟩) (V.length + 1) cap) w4 := by
  have hba : Below W2.heap.size W2 (W2.alloc o) := (Below.refl _ W2).alloc (Nat.le_refl _) o
  have hrow : ∀ j, v.ownBlock = some j → w.heap.size ≤ j ∧ j < wr.heap.size := fun j hj => h2.lt j hj
  have hm : Mv (W2.alloc o) w4 (q :: v.ownBlock.toList) := Mv.of_grown hg (fun j hj => List.mem_cons_of_mem _ (Option.mem_toList.2 hj))
  have hs' : ∀ z ∈ [g], z ∈ v.ownBlock.toList ∨ (W2.alloc o).heap.size ≤ z := fun z hz => by
    rw [List.mem_singleton.1 hz]
    rcases hat with e | e
    · exact Or.inl (by rw [e]; simp)
    · exact Or.inr (Nat.le_of_eq e.symm)
  have hl : (V ++ [y.v]).length = V.length + 1 := by rw [List.length_append]; rfl
  refine ⟨⟨out ++ [y], ?_, ?_, fun x hx => ?_⟩, ?_⟩
  · rw [List.map_append, h1]; rfl
  · rw [← vxs_snoc, hl]; exact ho
  · show EntIn w4 ((q :: [g]) ++ t) _ _ _ _ _
    rcases List.mem_append.1 hx with hx | hx
    · exact XIn.more (x := ⟨x.v.ent, x.A, x.ca, x.B, x.cb⟩) (((h3 x hx).below hb2).below hba) hm hs'
    · rw [List.mem_singleton.1 hx]; exact XIn.more (x := ⟨y.v.ent, y.A, y.ca, y.B, y.cb⟩) (hy'.below hba) hm hs'
  · exact (hb.trans ((hb2.trans (hba.mono hb2.size)).mono hb.size)).grown hg (by have := hb.size; have := hb2.size; have := hba.size; omega) (fun j hj => (hrow j hj).1)
set_option maxRecDepth 100000 in
set_option maxHeartbeats 16000000 in
theorem stSnapshot (h : StAt w q s ot st n) (hI : Sta.Inv st) (hQ : st.Q.length ≤ 1000) :
    Calls Try.prog 19 #[.pointer (some ⟨q, 0, none⟩)] w fun r w' => ∃ (A : Option Addr) (ca : Nat) (L : List EvX), r = .returned (.slice A L.length ca) ∧ L.map EvX.v = Sta.snap st ∧ L.length ≤ ca ∧ ca ≤ 9223372036854775807 ∧ RowV w' ((q :: s) ++ ot) A L ∧ Below w.heap.size w w' := by
  have hlt := h.lt
  have hu := h.ul
  obtain ⟨⟨M, hM, hr⟩, -⟩ := h
  obtain ⟨A, ca, mb, B, cb, h1, hca, hcb, hP, hQX, -⟩ := hr.reads
  have HX := Lib.hid (fun (k : Nat) (hk : k < M.length) (W : World) (hb : Below w.heap.size w W) => (show Calls Try.prog 44 #[M[k].val] W (fun r w' => ∃ x : EntX, r = .returned ((Sta.paperE x.e).val x.A x.ca x.B x.cb) ∧ x.e = M[k].e ∧ NewX W.heap.size w' x ∧ Below W.heap.size W w') from (added_any (EntIn.at (hr.xin M[k] (List.getElem_mem hk)) hb (s := []) (fun x hx => by cases hx)) (hI.lens _ (by rw [← hM]; exact List.mem_map_of_mem (List.getElem_mem hk))).1 (hI.lens _ (by rw [← hM]; exact List.mem_map_of_mem (List.getElem_mem hk))).2).mono (fun r w' ⟨x, e1, e2, e3⟩ => ⟨x, by rw [e2]; exact e1, e2, e3⟩)))
  have hlen : M.length ≤ 1000 := by
    have := hI.few
    rw [← hM, List.length_map] at this
    omega
  have HW := Lib.hid (works_has h1)
  have y0 := h1.cell 0
  have y2 := h1.cell 2
  have y3 := h1.cell 3
  have HQ := Lib.hid (fun x (hx : x ∈ q :: ((q :: s) ++ ot)) => (by
    rcases List.mem_cons.1 hx with rfl | hx
    · exact hlt.1
    rcases List.mem_append.1 hx with hx | hx
    · rcases List.mem_cons.1 hx with rfl | hx
      · exact hlt.1
      · exact hlt.2 x hx
    · exact hu x hx : x < w.heap.size))
  have HP := Lib.hid hP
  have HQX := Lib.hid hQX
  have HM := Lib.hid hM
  have HCA := Lib.hid (And.intro hca.1 (And.intro hlen (And.intro hcb.1 hQ)))
  have HH := Lib.hid h1
  obtain ⟨i0, hi0, hz0, hz1, hz2⟩ := info_parts evInfo16
  have HI := Lib.hid (And.intro hi0 (And.intro hz0 (And.intro hz1 hz2)))
  clear hr hM h1 hI hP hQX hca hcb hlt hu hlen hQ hi0 hz0 hz1 hz2
  have hl0 : (M.length : Int) ≤ 1000 := by have := HCA.out.2.1; omega
  have HST := Lib.hid (Spd.start w q ((q :: s) ++ ot) st.now)
  go_enter Try.func19, Try.ntmps19
  go_wp2_with fail
  refine HW.out.mono ?_
  rintro r w1 ⟨rfl, hw1⟩
  subst w1
  have y0' : (w.alloc (.cells #[.int .i64 7, .string ⟨#[]⟩, .int .i64 0, .int .i64 0, .int .i64 0, .slice none 0 0, .bool false, .slice none 0 0, .int .i64 0, .int .i64 0, .string ⟨#[]⟩, .int .i64 0, .string ⟨#[]⟩, .int .i64 st.now] 37)).cell? ⟨q, 0, none⟩ = some (.slice A M.length ca) := ((stBox w _).cell (p := ⟨q, 0, none⟩) HH.out.lt).trans y0
  go_upto_region 4 with fail
  have hb0 := stBox w (.cells #[.int .i64 7, .string ⟨#[]⟩, .int .i64 0, .int .i64 0, .int .i64 0, .slice none 0 0, .bool false, .slice none 0 0, .int .i64 0, .int .i64 0, .string ⟨#[]⟩, .int .i64 0, .string ⟨#[]⟩, .int .i64 st.now] 37)
  have hst0 : Spd w q ((q :: s) ++ ot) [Sta.clockE st.now] (.slice (some ⟨w.heap.size, 0, none⟩) 1 1) (w.alloc (.cells #[.int .i64 7, .string ⟨#[]⟩, .int .i64 0, .int .i64 0, .int .i64 0, .slice none 0 0, .bool false, .slice none 0 0, .int .i64 0, .int .i64 0, .string ⟨#[]⟩, .int .i64 0, .string ⟨#[]⟩, .int .i64 st.now] 37)) := HST.out
  generalize w.alloc (.cells #[.int .i64 7, .string ⟨#[]⟩, .int .i64 0, .int .i64 0, .int .i64 0, .slice none 0 0, .bool false, .slice none 0 0, .int .i64 0, .int .i64 0, .string ⟨#[]⟩, .int .i64 0, .string ⟨#[]⟩, .int .i64 st.now] 37) = W0 at hb0 hst0 y0' ⊢
  generalize (Value.slice (some ⟨w.heap.size, 0, none⟩) 1 1) = v0 at hst0 ⊢
  have y2' := (hb0.cell (p := ⟨q, 2, none⟩) HH.out.lt).trans y2
  have HB0 := Lib.hid (And.intro hb0 hst0)
  clear y0 y2 y3 HST hb0 hst0
  go_wp2_with fail
  go_loopg [3, 22] M.length (fun m v3 v22 wr => ∃ k : Nat, k + m = M.length ∧ v22 = .int .i64 (k : Int) ∧ Spd w q ((q :: s) ++ ot) (Sta.clockE st.now :: (st.P.take k).map Sta.paperE) v3 wr)
  case atStart => exact ⟨0, Nat.zero_add _, rfl, HB0.out.2⟩
  case round =>
    obtain ⟨k, hkm, rfl, hC⟩ := hrel
    cases gk with
    | zero =>
      have hlt : ¬ (k : Int) < (M.length : Int) := by omega
      obtain rfl : k = M.length := by omega
      rw [show M.length = st.P.length by rw [← HM.out, List.length_map], List.take_length] at hC
      have y2k := (hC.bl.cell (p := ⟨q, 2, none⟩) HH.out.lt).trans (HH.out.cell 2)
      have HC1 := Lib.hid hC
      have hl1 : (st.Q.length : Int) ≤ 1000 := by have := HCA.out.2.2.2; omega
      clear hC HX HP y0' y2' hlt hkm
      go_wp2_with fail
      generalize wr = wo at *
      clear HB0
      go_loopg [3, 37] st.Q.length (fun m v3 v37 wr => ∃ k : Nat, k + m = st.Q.length ∧ v37 = .int .i64 (k : Int) ∧ Spd w q ((q :: s) ++ ot) ((Sta.clockE st.now :: st.P.map Sta.paperE) ++ (st.Q.take k).map Sta.pointE) v3 wr)
      case atStart => exact ⟨0, Nat.zero_add _, rfl, by rw [List.take_zero, List.map_nil, List.append_nil]; exact HC1.out⟩
      case round =>
        obtain ⟨k, hkm, rfl, hC⟩ := hrel
        cases gk with
        | zero =>
          have hlt : ¬ (k : Int) < (st.Q.length : Int) := by omega
          obtain rfl : k = st.Q.length := by omega
          rw [List.take_length] at hC
          have HC := Lib.hid hC
          clear hC
          go_wp2_with fail
          go_ret
          obtain ⟨out, e1, e2, e3⟩ := HC.out.ex
          obtain ⟨A1, c1, rfl⟩ := ownS_slice e2
          have el : out.length = ((Sta.clockE st.now :: st.P.map Sta.paperE) ++ st.Q.map Sta.pointE).length := by rw [← e1, List.length_map]
          refine ⟨A1, c1, out, by rw [el]; rfl, e1, by rw [el]; exact (ownS_reads e2).1.1, (ownS_reads e2).1.2, ⟨ownS_row e2 (fun b hb hz => ?_), fun x hx => (e3 x hx).sub (fun z hz => List.mem_append_right _ hz)⟩, HC.out.bl⟩
          have h1 := HQ.out b (List.mem_cons_of_mem _ hz)
          have h2 := (e2.lt b hb).1
          omega
        | succ m =>
          have hlt : (k : Int) < (st.Q.length : Int) := by omega
          have hk : k < st.Q.length := by omega
          have hk0 : (0 : Int) ≤ (k : Int) := by omega
          have hkc : (k : Int) < (cb : Int) := by have := HCA.out.2.2.1; omega
          have hinc : IntKind.i64.wrap ((k : Int) + 1) = (k : Int) + 1 := by rw [IntKind.wrap_i64]; omega
          obtain ⟨b, hA, hb, -, hx0, hx1⟩ := HQX.out k hk
          have x0 := (hC.bl.cell (p := ⟨b, k * 2, none⟩) hb).trans hx0
          have x1 := (hC.bl.cell (p := ⟨b, k * 2 + 1, none⟩) hb).trans hx1
          have hVV : (Sta.clockE st.now :: st.P.map Sta.paperE) ++ (st.Q.take (k + 1)).map Sta.pointE = ((Sta.clockE st.now :: st.P.map Sta.paperE) ++ (st.Q.take k).map Sta.pointE) ++ [Sta.pointE st.Q[k]] := by
            rw [take_one (List.getElem?_eq_getElem hk), List.map_append, List.append_assoc]; rfl
          have HVV := Lib.hid hVV
          have hvl : ((Sta.clockE st.now :: st.P.map Sta.paperE) ++ (st.Q.take k).map Sta.pointE).length ≤ 10000 := by
            have h1 := HCA.out.2.1
            have h2 := HCA.out.2.2.2
            have h3 : st.P.length = M.length := by rw [← HM.out, List.length_map]
            simp only [List.length_append, List.length_cons, List.length_map, List.length_take]
            omega
          subst hA
          clear hVV hx0 hx1
          generalize (Sta.clockE st.now :: st.P.map Sta.paperE) ++ (st.Q.take k).map Sta.pointE = VK at hC HVV hvl
          generalize st.Q[k]'hk = x at x0 x1 HVV
          obtain ⟨size, root⟩ := x
          dsimp only at x0 x1
          have HC := Lib.hid hC
          have HKM := Lib.hid (And.intro hkm hvl)
          have hbb := stBox wr (.cells #[.int .i64 size, .string (S root)] 35)
          have HBB := Lib.hid hbb
          obtain ⟨out, e1, e2, e3⟩ := hC.ex
          have HO := Lib.hid (And.intro e1 (And.intro e2 e3))
          have hmd := evxMade (wr.alloc (.cells #[.int .i64 size, .string (S root)] 35)) ⟨Sta.pointE ⟨size, root⟩, none, 0, none, 0⟩
          rw [asize] at hmd
          have HMD := Lib.hid hmd
          have HO2 := Lib.hid ((e2.alloc (.cells #[.int .i64 size, .string (S root)] 35)).alloc (.cells #[.int .i64 6, .string ⟨#[]⟩, .int .i64 0, .int .i64 0, .int .i64 0, .slice none 0 0, .bool false, .slice none 0 0, .int .i64 0, .int .i64 0, .string ⟨#[]⟩, .int .i64 size, .string (S root), .int .i64 0] 37))
          clear hC hkm hvl hbb e1 e2 e3 hmd
          go_wp2_with (at_builtin; (refine wpList_append_lies _ rfl (.tmp 41) (.tmp 44) 22 rfl w.heap.size 37 i0 _ 14 168 Try.underlying22 HI.out.1 HI.out.2.1 HI.out.2.2.1 HI.out.2.2.2 rfl (by decide) u3 VK.length (vxs out) rfl HO2.out ⟨wr.heap.size + 1, 0, none⟩ 1 1 (EvX.cs ⟨Sta.pointE ⟨size, root⟩, none, 0, none, 0⟩) rfl rfl HMD.out (evx_one _) (by decide) (by have := HKM.out.2; simp only [maxLen]; omega) (by have := HKM.out.2; omega) (by have := HC.out.bl.size; rw [asize, asize]; omega) _ rfl ?_))
          intro g cap w4 hown4 hg4 hat4 hlt4
          have HN := Lib.hid (Spd.more (w := w) (t := (q :: s) ++ ot) (y := ⟨Sta.pointE ⟨size, root⟩, none, 0, none, 0⟩) HQ.out HO.out.1 HO.out.2.1 HO.out.2.2 HC.out.bl HBB.out (EntIn.none_ _ _) hown4 hg4 (by rw [asize, asize] ; exact hat4))
          clear hown4 hg4 hat4 hlt4
          go_wp2_with fail
          go_roundg m
          case measure => omega
          case rel => exact ⟨k + 1, by have := HKM.out.1; omega, by go_num, by rw [HVV.out]; exact HN.out⟩
    | succ m =>
      have hlt : (k : Int) < (M.length : Int) := by omega
      have hk : k < M.length := by omega
      have hk0 : (0 : Int) ≤ (k : Int) := by omega
      have hkc : (k : Int) < (ca : Int) := by have := HCA.out.1; omega
      have hinc : IntKind.i64.wrap ((k : Int) + 1) = (k : Int) + 1 := by rw [IntKind.wrap_i64]; omega
      obtain ⟨b, hA, hb, -, hX⟩ := HP.out k hk
      obtain ⟨x0, x1, x2, x3, x4, x5, x6⟩ := hX.below (hC.bl.mono (Nat.le_refl _)) hb
      have HXK := Lib.hid (HX.out k hk)
      have hVV : Sta.clockE st.now :: (st.P.take (k + 1)).map Sta.paperE = (Sta.clockE st.now :: (st.P.take k).map Sta.paperE) ++ [Sta.paperE M[k].e] := by
        rw [take_one (x := M[k].e) (by rw [← HM.out, List.getElem?_map, List.getElem?_eq_getElem hk]; rfl), List.map_append]; rfl
      have HVV := Lib.hid hVV
      have hvl : (Sta.clockE st.now :: (st.P.take k).map Sta.paperE).length ≤ 10000 := by
        have h1 := HCA.out.2.1
        simp only [List.length_cons, List.length_map, List.length_take]
        omega
      subst hA
      clear hX hVV HB0 y0' y2'
      generalize Sta.clockE st.now :: (st.P.take k).map Sta.paperE = VK at hC HVV hvl
      generalize M[k]'hk = x at x0 x1 x2 x3 x4 x5 x6 HXK HVV
      obtain ⟨⟨id, cls, born, slot, L, gone, H⟩, xA, xca, xB, xcb⟩ := x
      rw [EntX.valE] at HXK
      dsimp only at x0 x1 x2 x3 x4 x5 x6 HVV HXK
      have hba := stBox wr (.cells #[.string (S id), .int .i64 cls, .int .i64 born, .int .i64 slot, .slice xA L.length xca, .bool gone, .slice xB H.length xcb] 33)
      have HBA := Lib.hid hba
      have HC := Lib.hid hC
      have HKM := Lib.hid (And.intro hkm hvl)
      clear hC hkm hba hvl
      go_wp2_with fail
      refine (HXK.out _ (HC.out.bl.trans (HBA.out.mono HC.out.bl.size))).mono ?_
      rintro r w2 ⟨⟨⟨id', cls', born', slot', L', gone', H'⟩, A1, c1, B1, d1⟩, rfl, he, hN, hb2⟩
      injection he with e1 e2 e3 e4 e5 e6 e7
      subst e1 e2 e3 e4 e5 e6 e7
      dsimp only [Evt.val, Sta.paperE, Evt.zero]
      have HB2 := Lib.hid (HBA.out.trans (hb2.mono HBA.out.size))
      have HN := Lib.hid hN
      have HMD := Lib.hid (evxMade w2 ⟨Sta.paperE ⟨id', cls', born', slot', L', gone', H'⟩, A1, c1, B1, d1⟩)
      obtain ⟨out, e1, e2, e3⟩ := HC.out.ex
      have HO := Lib.hid (And.intro e1 (And.intro e2 e3))
      have HO2 := Lib.hid (own_keepB (w' := w2.alloc (.cells #[.int .i64 1, .string (S id'), .int .i64 cls', .int .i64 born', .int .i64 slot', .slice A1 L'.length c1, .bool gone', .slice B1 H'.length d1, .int .i64 0, .int .i64 0, .string (S []), .int .i64 0, .string (S []), .int .i64 0] 37)) e2 (fun g hg => (HB2.out.trans ((stBox w2 _).mono HB2.out.size)).block g (e2.lt g hg).2))
      have HYE : Hid (EntIn w2 ((q :: u3.ownBlock.toList) ++ ((q :: s) ++ ot)) ⟨id', cls', born', slot', L', gone', H'⟩ A1 c1 B1 d1) := Lib.hid (hN.xin (fun z hz => by
        have hs1 := HBA.out.size
        have hs0 := HC.out.bl.size
        rcases List.mem_append.1 hz with hz | hz
        · rcases List.mem_cons.1 hz with rfl | hz
          · have := HQ.out z (List.mem_cons_self ..); omega
          · have := (e2.lt z (Option.mem_toList.1 hz)).2; omega
        · have := HQ.out z (List.mem_cons_of_mem _ hz); omega))
      clear e1 e2 e3 hN hb2 HX x0 x1 x2 x3 x4 x5 x6 HXK
      go_wp2_with (at_builtin; (refine wpList_append_lies _ rfl (.tmp 26) (.tmp 29) 22 rfl w.heap.size 37 i0 _ 14 168 Try.underlying22 HI.out.1 HI.out.2.1 HI.out.2.2.1 HI.out.2.2.2 rfl (by decide) u3 VK.length (vxs out) rfl HO2.out ⟨w2.heap.size, 0, none⟩ 1 1 (EvX.cs ⟨Sta.paperE ⟨id', cls', born', slot', L', gone', H'⟩, A1, c1, B1, d1⟩) rfl rfl HMD.out (evx_one _) (by decide) (by have := HKM.out.2; simp only [maxLen]; omega) (by have := HKM.out.2; omega) (by have := HB2.out.size; have := HC.out.bl.size; rw [asize]; omega) _ rfl ?_))
      intro g cap w4 hown4 hg4 hat4 hlt4
      have HCN := Lib.hid (Spd.more (w := w) (t := (q :: s) ++ ot) (y := ⟨Sta.paperE ⟨id', cls', born', slot', L', gone', H'⟩, A1, c1, B1, d1⟩) HQ.out HO.out.1 HO.out.2.1 HO.out.2.2 HC.out.bl HB2.out HYE.out hown4 hg4 (by rw [asize]; exact hat4))
      clear hown4 hg4 hat4 hlt4
      go_wp2_with fail
      go_roundg m
      case measure => omega
      case rel => exact ⟨k + 1, by have := HKM.out.1; omega, by go_num, by rw [HVV.out]; exact HCN.out⟩
end
end Go.Proofs.Ytojemaaljjibiaa

namespace Go.Proofs.Ytojemaaljjibiaa
open Go.Op (bytesLess)
set_option linter.unusedVariables false

theorem entFew_right {e : Ent} (h : Ev.entR e = true) : EntFew e := by
  obtain ⟨h1, -, -, -, -, -, h7, -, h9, -⟩ := Ev.entR_iff.1 h
  refine ⟨by have := (Pap.word_len h1).2; omega, fun x hx => by have := (Pap.word_len (h7 x hx)).2; omega, fun x hx => ?_, fun x hx => ?_, fun x hx => ?_⟩
  · have := (Pap.word_len (Ev.slipR_iff.1 (h9 x hx)).1).2; omega
  · have := (Ev.slipR_iff.1 (h9 x hx)).2.1; omega
  · obtain ⟨-, -, h3, h4⟩ := Ev.slipR_iff.1 (h9 x hx)
    cases he : x.e with
    | true => rw [h3 he]; exact Nat.zero_le _
    | false => have := (h4 he).2.1; omega
namespace Sta
theorem snap_mem {s : Sta} (h : Inv s) {v : Evt} (hv : v ∈ snap s) : EvtFew v ∧ Ev.right v = true ∧ Ev.clean v = v := by
  obtain ⟨i, hi, rfl⟩ := List.getElem_of_mem hv
  have hc := (snap_step h i hi).1
  have hr : Ev.right (snap s)[i] = true := by
    cases hq : Ev.right (snap s)[i] with
    | true => rfl
    | false => unfold check at hc; rw [if_pos hq] at hc; exact absurd hc (by decide)
  have hm : (snap s)[i] ∈ snap s := List.getElem_mem hi
  generalize (snap s)[i] = v at hr hm ⊢
  unfold snap at hm
  rcases List.mem_cons.1 hm with rfl | hm
  · exact ⟨⟨⟨Nat.zero_le _, fun x hx => (by cases hx), fun x hx => (by cases hx), fun x hx => (by cases hx), fun x hx => (by cases hx)⟩, Nat.zero_le _, Nat.zero_le _⟩, hr, Ev.clean7 rfl⟩
  rcases List.mem_append.1 hm with hm | hm
  · obtain ⟨e, he, rfl⟩ := List.mem_map.1 hm
    exact ⟨⟨entFew_right (h.right e he), Nat.zero_le _, Nat.zero_le _⟩, hr, Ev.clean1 rfl⟩
  · obtain ⟨p, hp, rfl⟩ := List.mem_map.1 hm
    refine ⟨⟨⟨Nat.zero_le _, fun x hx => (by cases hx), fun x hx => (by cases hx), fun x hx => (by cases hx), fun x hx => (by cases hx)⟩, Nat.zero_le _, ?_⟩, hr, Ev.clean6 rfl⟩
    have := (h.pts p hp).2.1
    show p.root.length ≤ 1000000
    omega
/-- What a snapshot's papers, checkpoints, time are. -/
def unP (l : List Evt) : List Ent := (l.filter fun v => decide (v.kind = 1)).map Evt.ent
def unQ (l : List Evt) : List Pt := (l.filter fun v => decide (v.kind = 6)).map fun v => ⟨v.size, v.root⟩
theorem unP_snap (s : Sta) : unP (snap s) = s.P := by
  unfold unP snap
  rw [List.filter_cons_of_neg (by simp [clockE]), List.filter_append, List.filter_eq_self.2 (fun v hv => by obtain ⟨e, _, rfl⟩ := List.mem_map.1 hv; rfl), List.filter_eq_nil_iff.2 (fun v hv => by obtain ⟨p, _, rfl⟩ := List.mem_map.1 hv; simp [pointE]), List.append_nil, List.map_map]
  exact List.map_id _
theorem unQ_snap (s : Sta) : unQ (snap s) = s.Q := by
  unfold unQ snap
  rw [List.filter_cons_of_neg (by simp [clockE]), List.filter_append, List.filter_eq_nil_iff.2 (fun v hv => by obtain ⟨e, _, rfl⟩ := List.mem_map.1 hv; simp [paperE]), List.filter_eq_self.2 (fun v hv => by obtain ⟨p, _, rfl⟩ := List.mem_map.1 hv; rfl), List.nil_append, List.map_map]
  exact List.map_id _
theorem snap_inj {s t : Sta} : snap s = snap t ↔ s = t := by
  constructor
  · intro h
    have h1 := congrArg unP h
    have h2 := congrArg unQ h
    rw [unP_snap, unP_snap] at h1
    rw [unQ_snap, unQ_snap] at h2
    unfold snap at h
    injection h with h3 _
    have h4 : s.now = t.now := congrArg Evt.now h3
    obtain ⟨P, Q, n⟩ := s
    obtain ⟨P', Q', n'⟩ := t
    simp only at h1 h2 h4
    subst h1 h2 h4
    rfl
  · rintro rfl; rfl
end Sta
end Go.Proofs.Ytojemaaljjibiaa
