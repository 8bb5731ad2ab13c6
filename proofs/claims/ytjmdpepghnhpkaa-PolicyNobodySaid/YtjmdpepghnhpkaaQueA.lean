/-
  A queue in memory: Len, First, Take.
-/
import Derived.Test.YtjmdpepghnhpkaaHeapRm
import Derived.Laws.CopyOwn
namespace Go.Proofs.Ytjmdpepghnhpkaa
open Go.RowKit
set_option linter.unusedVariables false

/-- Block q is a queue whose dues lie as h; s: the other blocks that it may change. -/
def QRep (w : World) (q : Nat) (s : List Nat) (h : List Du) : Prop :=
  (h = [] ∧ s = [] ∧ Has w q 32 #[.slice none 0 0]) ∨ ∃ B cap, s = [B] ∧ HAt w q B h cap
theorem QRep.has {w : World} {q : Nat} {s : List Nat} {h : List Du} (H : QRep w q s h) : ∃ A cap, Has w q 32 #[.slice A h.length cap] := by
  rcases H with ⟨rfl, rfl, h1⟩ | ⟨B, cap, rfl, h1⟩
  · exact ⟨none, 0, h1⟩
  · exact ⟨some ⟨B, 0, none⟩, cap, h1.qh⟩
theorem QRep.mv {w w' : World} {q : Nat} {s t : List Nat} {h : List Du} (H : QRep w q s h) (hm : Mv w w' t) (ht : ∀ x ∈ t, x ≠ q ∧ x ∉ s) : QRep w' q s h := by
  rcases H with ⟨rfl, rfl, h1⟩ | ⟨B, cap, rfl, h1⟩
  · exact .inl ⟨rfl, rfl, hm.has h1 (fun hx => (ht q hx).1 rfl)⟩
  · exact .inr ⟨B, cap, rfl, h1.mv hm (fun hx => (ht q hx).1 rfl) (fun hx => (ht B hx).2 (by simp))⟩
theorem QRep.below {w w' : World} {q : Nat} {s : List Nat} {h : List Du} (H : QRep w q s h) (hb : Below w.heap.size w w') : QRep w' q s h := H.mv (Mv.of_below hb []) (by simp)
theorem QRep.lt {w : World} {q : Nat} {s : List Nat} {h : List Du} (H : QRep w q s h) : q < w.heap.size ∧ ∀ x ∈ s, x < w.heap.size := by
  rcases H with ⟨rfl, rfl, h1⟩ | ⟨B, cap, rfl, h1⟩
  · exact ⟨h1.lt, by simp⟩
  · exact ⟨h1.lt.1, by simpa using h1.lt.2⟩
set_option maxRecDepth 100000 in
theorem qrlen_any {w : World} {q : Nat} {s : List Nat} {h : List Du} (H : QRep w q s h) :
    Calls Try.prog 15 #[.pointer (some ⟨q, 0, none⟩)] w fun r w' => r = .returned (.int .i64 (h.length : Int)) ∧ w' = w := by
  obtain ⟨A, cap, hh⟩ := H.has
  have hc : w.cell? ⟨q, 0, none⟩ = some (.slice A h.length cap) := hh.cell 0
  clear hh H
  generalize h.length = n at *
  go_enter Try.func15, Try.ntmps15
  go_wp2_with fail
  go_ret
  exact ⟨rfl, rfl⟩
/-- What First, Take and Ready hand back. -/
def dueR (o : Option Du) : Value := match o with | some d => .tuple #[.agg #[.int .i64 d.seq, .int .i64 d.due], .bool true] | none => .tuple #[.agg #[.int .i64 0, .int .i64 0], .bool false]
theorem ret_dueR {fn : Func} {p u : Tmp} {R : Ending → World → Prop} {a : Act} {w : World} (h : fn.results = #[.cell p 34, .tmp u]) (g : Nat) (cs : Array Value) (v : Value)
    (hp : a.tmps.getD p undef = .pointer (some ⟨g, 0, none⟩)) (hu : a.tmps.getD u undef = v) (hd : a.defers = []) (hh : Has w g 34 cs) (hcs : cs.size = 2) (hR : R (.returned (.tuple #[.agg cs, v])) w) : bodyPost Try.prog fn R .ret a w :=
  bodyPost_ret (v := .tuple #[.agg cs, v]) (by
    have h1 : (loadVar 34 ⟨g, 0, none⟩).run Try.prog w = .ok (.agg cs) w := run_loadVar_row w g 34 34 cs (0, 0) _ hh Try.underlying34 rfl (by rw [hcs]; exact dueSz)
    rw [results_cell_tmp h, hp, hu]
    simp [asAddr, h1, Result.andThen]) hd hR
set_option maxRecDepth 100000 in
set_option maxHeartbeats 2000000 in
theorem qrfirst_any {w : World} {q : Nat} {s : List Nat} {h : List Du} (H : QRep w q s h) :
    Calls Try.prog 13 #[.pointer (some ⟨q, 0, none⟩)] w fun r w' => r = .returned (dueR h.head?) ∧ Below w.heap.size w w' := by
  have hb : Below w.heap.size w (w.alloc (.cells #[.int .i64 0, .int .i64 0] 34)) := (Below.refl _ w).alloc (Nat.le_refl _) _
  have hh := Has.made w 34 #[.int .i64 0, .int .i64 0]
  have HQ := Lib.hid (H.below hb)
  obtain ⟨o, ho⟩ : ∃ o, dueR h.head? = o := ⟨_, rfl⟩
  rw [ho]
  have HO := Lib.hid ho
  clear H ho
  go_enter Try.func13, Try.ntmps13
  go_upto_region 1 with fail
  generalize w.alloc (.cells #[.int .i64 0, .int .i64 0] 34) = W0 at hb hh HQ ⊢
  obtain ⟨b0, hq0⟩ : ∃ b0, w.heap.size = b0 := ⟨_, rfl⟩
  rw [hq0] at hh ⊢
  have HH := Lib.hid hh
  have HB := Lib.hid hb
  have HLE : Hid (w.heap.size ≤ b0) := Lib.hid (by omega)
  have HLN := Lib.hid (qrlen_any HQ.out)
  have d0 : W0.cell? ⟨b0, 0, none⟩ = some (.int .i64 0) := hh.cell 0
  have d1 : W0.cell? ⟨b0, 1, none⟩ = some (.int .i64 0) := hh.cell 1
  have f0 := hh.free 0
  have f1 := hh.free 1
  clear hb hh hq0
  match h, HQ, HLN, HO with
  | [], HQ, HLN, HO =>
    rw [show (([] : List Du).length : Int) = 0 from rfl] at HLN
    go_wp2_with fail
    refine HLN.out.mono ?_
    rintro r w1 ⟨rfl, rfl⟩
    go_wp2_with fail
    exact ret_dueR (p := 2) (u := 3) rfl b0 #[.int .i64 0, .int .i64 0] (.bool false) rfl rfl rfl ((HH.out.set 0 _).set 1 _) rfl ⟨by rw [← HO.out]; rfl, (HB.out.setCell (p := ⟨b0, 0, none⟩) HLE.out _).setCell (p := ⟨b0, 1, none⟩) HLE.out _⟩
  | x :: l, HQ, HLN, HO =>
    obtain ⟨n, hn⟩ : ∃ n, (x :: l).length = n := ⟨_, rfl⟩
    have hpos : (0 : Int) < (n : Int) := by rw [← hn, List.length_cons]; omega
    have hne : ((n : Int) == 0) = false := by rw [beq_eq_false_iff_ne]; omega
    obtain ⟨B, cap, hat⟩ : ∃ B cap, HAt W0 q B (x :: l) cap := by
      rcases HQ.out with ⟨e, _⟩ | ⟨B, cap, _, hat⟩
      · cases e
      · exact ⟨B, cap, hat⟩
    have hsl := hat.slice
    obtain ⟨c0, c1⟩ := hat.cells 0 (by simp)
    rw [hn] at HLN hsl
    rw [Nat.zero_mul, List.getElem_cons_zero] at c0 c1
    obtain ⟨xs, xd⟩ := x
    clear hat hn HQ
    go_wp2_with fail
    refine HLN.out.mono ?_
    rintro r w1 ⟨rfl, rfl⟩
    go_wp2_with fail
    exact ret_dueR (p := 2) (u := 3) rfl b0 #[.int .i64 xs, .int .i64 xd] (.bool true) rfl rfl rfl ((HH.out.set 0 _).set 1 _) rfl ⟨by rw [← HO.out]; rfl, (HB.out.setCell (p := ⟨b0, 0, none⟩) HLE.out _).setCell (p := ⟨b0, 1, none⟩) HLE.out _⟩
/-- What is left behind a Take. -/
def Took (h h' : List Du) : Prop := (h = [] → h' = []) ∧ ∀ x l, h = x :: l → h.Perm (x :: h')
set_option maxRecDepth 100000 in
set_option maxHeartbeats 4000000 in
theorem qrtake_any {w : World} {q : Nat} {s : List Nat} {h : List Du} (H : QRep w q s h) (hh : Du.Heap h) (hl : h.length ≤ 1000000) :
    Calls Try.prog 14 #[.pointer (some ⟨q, 0, none⟩)] w fun r w' => r = .returned (dueR h.head?) ∧ ∃ h', Took h h' ∧ Du.Heap h' ∧ QRep w' q s h' ∧ Mv w w' (q :: s) := by
  have hb : Below w.heap.size w (w.alloc (.cells #[.int .i64 0, .int .i64 0] 34)) := (Below.refl _ w).alloc (Nat.le_refl _) _
  have hz := Has.made w 34 #[.int .i64 0, .int .i64 0]
  have HQ := Lib.hid (H.below hb)
  have HQL := Lib.hid H.lt
  obtain ⟨o, ho⟩ : ∃ o, dueR h.head? = o := ⟨_, rfl⟩
  rw [ho]
  have HO := Lib.hid ho
  obtain ⟨T, hT⟩ : ∃ T, Took h = T := ⟨_, rfl⟩
  rw [hT]
  have HT := Lib.hid hT
  have HP := Lib.hid hh
  have HLL := Lib.hid hl
  clear H ho hh hl hT
  go_enter Try.func14, Try.ntmps14
  go_upto_region 1 with fail
  generalize w.alloc (.cells #[.int .i64 0, .int .i64 0] 34) = W0 at hb hz HQ ⊢
  obtain ⟨b0, hq0⟩ : ∃ b0, w.heap.size = b0 := ⟨_, rfl⟩
  rw [hq0] at hz ⊢
  have HH := Lib.hid hz
  have HB := Lib.hid hb
  have HB0 := Lib.hid hq0
  clear hb hz hq0
  have HF := Lib.hid (qrfirst_any HQ.out)
  have HFO := Lib.hid HO.out
  rw [HO.out] at HF
  go_wp2_with fail
  refine HF.out.mono ?_
  rintro r w1 ⟨rfl, hb1⟩
  have HB1 := Lib.hid (HB.out.trans (hb1.mono HB.out.size))
  have HH1 := Lib.hid (HH.out.below hb1 HH.out.lt)
  have HQ1 := Lib.hid (HQ.out.below hb1)
  clear hb1 HH HB HQ HF
  match h, HQL, HQ1, HO, HP, HLL, HT with
  | [], HQL, HQ1, HO, HP, HLL, HT =>
    obtain rfl : o = .tuple #[.agg #[.int .i64 0, .int .i64 0], .bool false] := by rw [← HO.out]; rfl
    go_upto_region 2 with fail
    have hb2 : Below w1.heap.size w1 (w1.alloc (.cells #[.int .i64 0, .int .i64 0] 34)) := (Below.refl _ w1).alloc (Nat.le_refl _) _
    have hh2 := Has.made w1 34 #[.int .i64 0, .int .i64 0]
    generalize w1.alloc (.cells #[.int .i64 0, .int .i64 0] 34) = W2 at hb2 hh2 ⊢
    have HB2 := Lib.hid (HB1.out.trans (hb2.mono HB1.out.size))
    have HH2 := Lib.hid (HH1.out.below hb2 HH1.out.lt)
    have HQ2 := Lib.hid (HQ1.out.below hb2)
    generalize w1.heap.size = b1 at hh2 ⊢
    have hc0 : W2.cell? ⟨b1, 0, none⟩ = some (.int .i64 0) := hh2.cell 0
    have hc1 : W2.cell? ⟨b1, 1, none⟩ = some (.int .i64 0) := hh2.cell 1
    clear hb2 hh2 HB1 HH1 HQ1
    have d0 : W2.cell? ⟨b0, 0, none⟩ = some (.int .i64 0) := HH2.out.cell 0
    have d1 : W2.cell? ⟨b0, 1, none⟩ = some (.int .i64 0) := HH2.out.cell 1
    have f0 := HH2.out.free 0
    have f1 := HH2.out.free 1
    go_wp2_with fail
    have hle : w.heap.size ≤ b0 := by have := HB0.out; omega
    have hbf := (HB2.out.setCell (p := ⟨b0, 0, none⟩) hle (.int .i64 0)).setCell (p := ⟨b0, 1, none⟩) hle (.int .i64 0)
    have hmv : Mv W2 ((W2.setCell ⟨b0, 0, none⟩ (.int .i64 0)).setCell ⟨b0, 1, none⟩ (.int .i64 0)) [b0] := (Mv.of_only (Only.set W2 b0 0 _) (s := [b0]) (by simp)).trans (Mv.of_only (Only.set _ b0 1 _) (s := [b0]) (by simp))
    exact ret_dueR (p := 2) (u := 3) rfl b0 #[.int .i64 0, .int .i64 0] (.bool false) rfl rfl rfl ((HH2.out.set 0 _).set 1 _) rfl ⟨rfl, [], (by rw [← HT.out]; exact ⟨fun _ => rfl, fun x l e => (by cases e)⟩), HP.out, HQ2.out.mv hmv (by
      intro x hx
      rw [List.mem_singleton.1 hx]
      have h1 := HQL.out.1
      have h0 := HB0.out
      exact ⟨by omega, fun hs => by have := HQL.out.2 _ hs; omega⟩), Mv.of_below hbf _⟩
  | x :: l, HQL, HQ1, HO, HP, HLL, HT =>
    obtain ⟨B, cap, hsB, hat⟩ : ∃ B cap, s = [B] ∧ HAt w1 q B (x :: l) cap := by
      rcases HQ1.out with ⟨e, _⟩ | ⟨B, cap, e, hat⟩
      · cases e
      · exact ⟨B, cap, e, hat⟩
    subst hsB
    obtain ⟨xs, xd⟩ := x
    obtain rfl : o = .tuple #[.agg #[.int .i64 xs, .int .i64 xd], .bool true] := by rw [← HO.out]; rfl
    have HAT := Lib.hid hat
    clear hat HQ1
    go_upto_region 2 with fail
    have hb2 : Below w1.heap.size w1 (w1.alloc (.cells #[.int .i64 xs, .int .i64 xd] 34)) := (Below.refl _ w1).alloc (Nat.le_refl _) _
    have hh2 := Has.made w1 34 #[.int .i64 xs, .int .i64 xd]
    generalize w1.alloc (.cells #[.int .i64 xs, .int .i64 xd] 34) = W2 at hb2 hh2 ⊢
    have HB2 := Lib.hid (HB1.out.trans (hb2.mono HB1.out.size))
    have HH2 := Lib.hid (HH1.out.below hb2 HH1.out.lt)
    have hsz1 := HB1.out.size
    have hlt1 := HH1.out.lt
    obtain ⟨b1, hb1e⟩ : ∃ b1, w1.heap.size = b1 := ⟨_, rfl⟩
    rw [hb1e] at hh2 hsz1 hlt1 ⊢
    have HHB := Lib.hid hh2
    have HBB : Hid (w.heap.size ≤ b1 ∧ b0 < b1) := Lib.hid ⟨hsz1, hlt1⟩
    have HRM := Lib.hid (dremove_any (i := 0) (HAT.out.below hb2) HP.out (by simp) HLL.out)
    clear hb2 hh2 HB1 HH1 HAT hsz1 hlt1 hb1e
    go_wp2_with fail
    refine HRM.out.mono ?_
    rintro r w3 ⟨rfl, h', hp3, hd3, hat3, hm3⟩
    have hq1 := HQL.out.1
    have hB1 : B < w.heap.size := HQL.out.2 B (by simp)
    have hbe := HB0.out
    have hbb := HBB.out
    have hh0 : Has w3 b0 34 #[.int .i64 0, .int .i64 0] := hm3.has HH2.out (by simp; omega)
    have hh1 : Has w3 b1 34 #[.int .i64 xs, .int .i64 xd] := hm3.has HHB.out (by simp; omega)
    have HH3 := Lib.hid hh0
    have HFIN := Lib.hid (And.intro hp3 (And.intro hd3 (And.intro hat3 ((Mv.of_below HB2.out [q, B]).trans hm3))))
    have HNE : Hid (b0 ≠ q ∧ b0 ≠ B ∧ w.heap.size ≤ b0) := Lib.hid (by omega)
    have hc0 : w3.cell? ⟨b1, 0, none⟩ = some (.int .i64 xs) := hh1.cell 0
    have hc1 : w3.cell? ⟨b1, 1, none⟩ = some (.int .i64 xd) := hh1.cell 1
    have d0 : w3.cell? ⟨b0, 0, none⟩ = some (.int .i64 0) := hh0.cell 0
    have d1 : w3.cell? ⟨b0, 1, none⟩ = some (.int .i64 0) := hh0.cell 1
    have f0 := hh0.free 0
    have f1 := hh0.free 1
    clear hp3 hd3 hat3 hm3 hh0 hh1 hq1 hB1 hbe hbb HRM HHB HBB
    go_wp2_with fail
    have hmv : Mv w3 ((w3.setCell ⟨b0, 0, none⟩ (.int .i64 xs)).setCell ⟨b0, 1, none⟩ (.int .i64 xd)) [b0] := (Mv.of_only (Only.set w3 b0 0 _) (s := [b0]) (by simp)).trans (Mv.of_only (Only.set _ b0 1 _) (s := [b0]) (by simp))
    obtain ⟨e1, e2, e3, e4⟩ := HFIN.out
    have hfin : Mv w ((w3.setCell ⟨b0, 0, none⟩ (.int .i64 xs)).setCell ⟨b0, 1, none⟩ (.int .i64 xd)) [q, B] := ⟨hmv.os.trans e4.os, hmv.tape.trans e4.tape, hmv.output.trans e4.output, Nat.le_trans e4.size hmv.size, fun k hk hn => (hmv.block k (Nat.lt_of_lt_of_le hk e4.size) (by have := HNE.out.2.2; simp; omega)).trans (e4.block k hk hn)⟩
    exact ret_dueR (p := 2) (u := 3) rfl b0 #[.int .i64 xs, .int .i64 xd] (.bool true) rfl rfl rfl ((HH3.out.set 0 _).set 1 _) rfl ⟨rfl, h', (by rw [← HT.out]; exact ⟨fun e => (by cases e), fun y m e => (by cases e; exact e1)⟩), e2, .inr ⟨B, cap, rfl, e3.mv hmv (by have := HNE.out.1; simp; omega) (by have := HNE.out.2.1; simp; omega)⟩, hfin⟩
end Go.Proofs.Ytjmdpepghnhpkaa
