/-
  The contracts of octet's writer.
-/
import Derived.Test.YtihhgingdgepcaaWriteSpec
import Derived.Test.YtihhgingdgepcaaNum
namespace Go.Proofs.Ytihhgingdgepcaa
open Go.RowKit
set_option linter.unusedVariables false

/-- A writer: block g is the struct; its pieces; whether it is spoiled. -/
def Wr (w : World) (g : Nat) (st : Wt.St) : Prop :=
  ∃ P : Option Addr, Has w g 43 #[.pointer P, .int .i64 (Wt.flat st).length, .bool st.2] ∧ Chain w g 68 5 P st.1
theorem Wr.lt {w : World} {g : Nat} {st : Wt.St} (h : Wr w g st) : g < w.heap.size := by
  obtain ⟨P, hh, _⟩ := h
  exact hh.lt
theorem Wr.below {w w' : World} {g B : Nat} {st : Wt.St} (h : Wr w g st) (hb : Below B w w') (hB : w.heap.size ≤ B) : Wr w' g st := by
  obtain ⟨P, hh, hc⟩ := h
  exact ⟨P, hh.below hb (by have := hh.lt; omega), hc.below hb hB⟩

set_option maxHeartbeats 1000000 in
theorem spoil_wr (g : Nat) (st : Wt.St) (w : World) (h : Wr w g st) :
    Calls Try.prog 38 #[.pointer (some ⟨g, 0, none⟩)] w fun r w' => r = .returned (.tuple #[]) ∧ Wr w' g (st.1, true) ∧ Only w w' g := by
  obtain ⟨P, hh, hc⟩ := h
  have h2 : w.cell? ⟨g, 2, none⟩ = some (.bool st.2) := hh.cell 2
  have hf := hh.free 2
  have hs := hh.set 2 (.bool true)
  have hcs := hc.only (Only.set w g 2 (.bool true)) (Or.inl rfl)
  have HS := Lib.hid hs; clear hs hh hc
  go_enter Try.func38, Try.ntmps38
  go_wp2_with fail
  go_returns
  exact ⟨rfl, ⟨P, HS.out, hcs⟩, Only.set _ _ _ _⟩

/-- The world behind a piece that was laid. -/
theorem raw_only (s : List UInt8) (g : Nat) (w : World) (P : Option Addr) (n : Int) :
    Only w ((((bworld w 5 s).setCell ⟨g, 0, none⟩ (.pointer (some ⟨w.heap.size + 1, 0, none⟩))).setCell ⟨g, 1, none⟩ (.int .i64 n)).alloc
      (.cells #[.pointer P, .slice (some ⟨w.heap.size, 0, none⟩) s.length (bcap w 5 s)] 68)) g :=
  ((((Only.of_below (bworld_below w _ s) g).trans (Only.set _ g 0 _)).trans (Only.set _ g 1 _)).trans (Only.of_below ((Below.refl _ _).alloc (Nat.le_refl _) _) g))
theorem raw_close (s : List UInt8) (g : Nat) (st : Wt.St) (w : World) (P : Option Addr) (hh : Has w g 43 #[.pointer P, .int .i64 (Wt.flat st).length, .bool st.2]) (hc : Chain w g 68 5 P st.1)
    (hfl : (Wt.flat (s :: st.1, st.2)).length = (Wt.flat st).length + s.length) (hs : ¬ s = []) :
    Wr ((((bworld w 5 s).setCell ⟨g, 0, none⟩ (.pointer (some ⟨w.heap.size + 1, 0, none⟩))).setCell ⟨g, 1, none⟩ (.int .i64 (((Wt.flat st).length : Int) + (s.length : Int)))).alloc
      (.cells #[.pointer P, .slice (some ⟨w.heap.size, 0, none⟩) s.length (bcap w 5 s)] 68)) g (s :: st.1, st.2) := by
  have hglt := hh.lt
  have hbw := bworld_below w 5 s
  have hsz := bworld_size w 5 s
  have h1 := (((hh.below hbw hglt).set 0 (.pointer (some ⟨w.heap.size + 1, 0, none⟩))).set 1 (.int .i64 (((Wt.flat st).length : Int) + (s.length : Int))))
  have c1 := (((hc.below hbw (Nat.le_refl _)).only (Only.set _ g 0 (.pointer (some ⟨w.heap.size + 1, 0, none⟩))) (Or.inl rfl)).only (Only.set _ g 1 (.int .i64 (((Wt.flat st).length : Int) + (s.length : Int)))) (Or.inl rfl))
  have hy0 : Bytes (bworld w 5 s) w.heap.size (some ⟨w.heap.size, 0, none⟩) s := fun _ => ⟨0, rfl, fun i hi => by rw [Nat.zero_add]; exact bworld_cell w _ s i hi⟩
  have hne : w.heap.size ≠ g := by omega
  have hy1 := ((Only.set _ g 1 (.int .i64 (((Wt.flat st).length : Int) + (s.length : Int)))).bytes ((Only.set _ g 0 (.pointer (some ⟨w.heap.size + 1, 0, none⟩))).bytes hy0 hne) hne)
  have ht0 : (bworld w 5 s).heap[w.heap.size]? = some (.cells (brow w 5 s) 5 ((brow w 5 s).size, (brow w 5 s).size + 1)) := by unfold bworld; exact heap_alloc_new w.drew _
  have ht1 := ((Only.set ((bworld w 5 s).setCell ⟨g, 0, none⟩ (.pointer (some ⟨w.heap.size + 1, 0, none⟩))) g 1 (.int .i64 (((Wt.flat st).length : Int) + (s.length : Int)))).block w.heap.size (by simp [World.setCell, hsz]) (fun e => hne (by injection e))).trans (((Only.set (bworld w 5 s) g 0 (.pointer (some ⟨w.heap.size + 1, 0, none⟩))).block w.heap.size (by rw [hsz]; omega) (fun e => hne (by injection e))).trans ht0)
  generalize hW3 : ((bworld w 5 s).setCell ⟨g, 0, none⟩ (.pointer (some ⟨w.heap.size + 1, 0, none⟩))).setCell ⟨g, 1, none⟩ (.int .i64 (((Wt.flat st).length : Int) + (s.length : Int))) = W3 at h1 c1 hy1 ht1 ⊢
  have hs3 : W3.heap.size = w.heap.size + 1 := by rw [← hW3]; simp [World.setCell, hsz]
  have hb4 : Below W3.heap.size W3 (W3.alloc (.cells #[.pointer P, .slice (some ⟨w.heap.size, 0, none⟩) s.length (bcap w 5 s)] 68)) := (Below.refl _ _).alloc (Nat.le_refl _) _
  have hm := Has.made W3 68 #[.pointer P, .slice (some ⟨w.heap.size, 0, none⟩) s.length (bcap w 5 s)]
  rw [hs3] at hm
  refine ⟨some ⟨w.heap.size + 1, 0, none⟩, ?_, w.heap.size + 1, P, some ⟨w.heap.size, 0, none⟩, bcap w 5 s, w.heap.size, rfl, by omega, hne, hm, (Only.of_below hb4 g).bytes hy1 hne, hs, ⟨_, _, (hb4.block w.heap.size (by omega)).trans ht1⟩, c1.below hb4 (Nat.le_refl _)⟩
  rw [hfl]
  have := h1.of_alloc (.cells #[.pointer P, .slice (some ⟨w.heap.size, 0, none⟩) s.length (bcap w 5 s)] 68)
  simpa using this

set_option maxHeartbeats 1000000 in
theorem raw_wr (s : List UInt8) (g : Nat) (st : Wt.St) (w : World) (h : Wr w g st) (hcap : (Wt.flat st).length + s.length ≤ 4611686018427387904) :
    Calls Try.prog 39 #[.pointer (some ⟨g, 0, none⟩), .string (S s)] w fun r w' => r = .returned (.tuple #[]) ∧ Wr w' g (Wt.raw s st) ∧ Only w w' g := by
  by_cases hs : s = []
  · subst hs
    have hr : Wt.raw [] st = st := by unfold Wt.raw; rw [if_pos rfl]
    rw [hr]
    clear hr
    go_enter Try.func39, Try.ntmps39
    go_wp2_with fail
    go_returns
    exact ⟨rfl, h, Only.refl _ _⟩
  · have hr : Wt.raw s st = (s :: st.1, st.2) := by unfold Wt.raw; rw [if_neg hs]
    have hfl : (Wt.flat (s :: st.1, st.2)).length = (Wt.flat st).length + s.length := by rw [← hr, Wt.flat_raw, List.length_append]
    rw [hr]
    clear hr
    have hse : s.isEmpty = false := by simpa using hs
    have HSE := Lib.hid hs; clear hs
    obtain ⟨P, hh, hc⟩ := h
    have h0 : w.cell? ⟨g, 0, none⟩ = some (.pointer P) := hh.cell 0
    have h1 : w.cell? ⟨g, 1, none⟩ = some (.int .i64 (Wt.flat st).length) := hh.cell 1
    have hf0 := hh.free 0
    have hf1 := hh.free 1
    have hglt := hh.lt
    have hcv := fun W => conv_bytes (P := Try.prog) Try.underlying9 Try.underlying66 Try.underlying5 W s
    have hbw := bworld_below w 5 s
    have hb0 : (bworld w 5 s).cell? ⟨g, 0, none⟩ = some (.pointer P) := (hbw.cell (p := ⟨g, 0, none⟩) hglt).trans h0
    have hb1 : (bworld w 5 s).cell? ⟨g, 1, none⟩ = some (.int .i64 (Wt.flat st).length) := (hbw.cell (p := ⟨g, 1, none⟩) hglt).trans h1
    have hbf0 : (bworld w 5 s).frozen? ⟨g, 0, none⟩ = false := (hbw.frozen (p := ⟨g, 0, none⟩) hglt).trans hf0
    have hbf1 : (bworld w 5 s).frozen? ⟨g, 1, none⟩ = false := (hbw.frozen (p := ⟨g, 1, none⟩) hglt).trans hf1
    have hg1 : g < w.heap.size + 1 := by omega
    have HH := Lib.hid hh; clear hh
    have HFL := Lib.hid hfl; clear hfl
    go_enter Try.func39, Try.ntmps39
    go_wp2_with fail
    go_returns
    exact ⟨rfl, raw_close s g st w P HH.out hc HFL.out HSE.out, raw_only s g w P _⟩

set_option maxHeartbeats 1000000 in
theorem wnum_wr (n : Int) (g : Nat) (st : Wt.St) (w : World) (h : Wr w g st) (hcap : (Wt.flat st).length ≤ 4611686018427387000) :
    Calls Try.prog 19 #[.pointer (some ⟨g, 0, none⟩), .int .i64 n] w fun r w' => r = .returned (.tuple #[]) ∧ Wr w' g (Wt.num n st) ∧ Only w w' g := by
  have hlen := M.encL_len n
  have hN := fun W => num_any n W
  have hW : Wt.num n st = Wt.raw (M.encL n) (if M.encL n = [] then (st.1, true) else st) := rfl
  generalize M.encL n = e at hlen hN hW
  have HN := Lib.hid hN; clear hN
  by_cases he : e = []
  · subst he
    rw [if_pos rfl] at hW
    have HW := Lib.hid hW; clear hW
    go_enter Try.func19, Try.ntmps19
    go_wp2_with fail
    refine (HN.out _).mono ?_
    rintro r w1 ⟨rfl, hb1⟩
    go_wp2_with fail
    refine (spoil_wr g st _ (h.below hb1 (Nat.le_refl _))).mono ?_
    rintro r w2 ⟨rfl, h2, ho2⟩
    go_wp2_with fail
    refine (raw_wr [] g _ _ h2 (by show (Wt.flat st).length + 0 ≤ _; omega)).mono ?_
    rintro r w3 ⟨rfl, h3, ho3⟩
    go_wp2_with fail
    go_returns
    rw [HW.out]
    exact ⟨rfl, h3, ((Only.of_below hb1 g).trans ho2).trans ho3⟩
  · rw [if_neg he] at hW
    have HW := Lib.hid hW; clear hW
    have hee : e.isEmpty = false := by simpa using he
    clear he
    go_enter Try.func19, Try.ntmps19
    go_wp2_with fail
    refine (HN.out _).mono ?_
    rintro r w1 ⟨rfl, hb1⟩
    go_wp2_with fail
    refine (raw_wr e g _ _ (h.below hb1 (Nat.le_refl _)) (by omega)).mono ?_
    rintro r w3 ⟨rfl, h3, ho3⟩
    go_wp2_with fail
    go_returns
    rw [HW.out]
    exact ⟨rfl, h3, (Only.of_below hb1 g).trans ho3⟩

set_option maxHeartbeats 1000000 in
theorem wtext_wr (s : List UInt8) (g : Nat) (st : Wt.St) (w : World) (h : Wr w g st) (hcap : (Wt.flat st).length + s.length ≤ 4611686018427380000) :
    Calls Try.prog 21 #[.pointer (some ⟨g, 0, none⟩), .string (S s)] w fun r w' => r = .returned (.tuple #[]) ∧ Wr w' g (Wt.text s st) ∧ Only w w' g := by
  have hN := wnum_wr s.length g st w h (by omega)
  have hfl : (Wt.flat (Wt.num s.length st)).length ≤ (Wt.flat st).length + 8 := by
    rw [Wt.flat_num, List.length_append]; have := M.encL_len s.length; omega
  have hW : Wt.text s st = Wt.raw s (Wt.num s.length st) := rfl
  generalize Wt.num s.length st = st1 at hN hfl hW
  have HN := Lib.hid hN; clear hN
  have HW := Lib.hid hW; clear hW
  go_enter Try.func21, Try.ntmps21
  go_wp2_with fail
  refine (HN.out).mono ?_
  rintro r w1 ⟨rfl, h1, ho1⟩
  go_wp2_with fail
  refine (raw_wr s g _ _ h1 (by omega)).mono ?_
  rintro r w3 ⟨rfl, h3, ho3⟩
  go_wp2_with fail
  go_returns
  rw [HW.out]
  exact ⟨rfl, h3, ho1.trans ho3⟩

set_option maxHeartbeats 1000000 in
theorem wflag_wr (b : Bool) (g : Nat) (st : Wt.St) (w : World) (h : Wr w g st) (hcap : (Wt.flat st).length ≤ 4611686018427380000) :
    Calls Try.prog 40 #[.pointer (some ⟨g, 0, none⟩), .bool b] w fun r w' => r = .returned (.tuple #[]) ∧ Wr w' g (Wt.flag b st) ∧ Only w w' g := by
  have h1 : ∀ c : UInt8, (⟨#[c]⟩ : ByteArray) = S [c] := fun _ => rfl
  cases b
  all_goals
    go_enter Try.func40, Try.ntmps40
    go_wp2_with fail
    refine (raw_wr _ g _ _ h (by simp only [List.length_cons, List.length_nil]; omega)).mono ?_
    rintro r w3 ⟨rfl, h3, ho3⟩
    go_wp2_with fail
    go_returns
    exact ⟨rfl, h3, ho3⟩

theorem flat_take_le (l : List (List UInt8)) (k : Nat) (st : Wt.St) : (Wt.flat ((l.take k).foldl (fun st s => Wt.text s st) st)).length ≤ (Wt.flat st).length + (l.map fun s => s.length + 8).sum := by
  have key : ∀ (l : List (List UInt8)) (st : Wt.St), (Wt.flat (l.foldl (fun st s => Wt.text s st) st)).length ≤ (Wt.flat st).length + (l.map fun s => s.length + 8).sum := by
    intro l
    induction l with
    | nil => intro st; simp
    | cons s l ih =>
      intro st
      have h1 := ih (Wt.text s st)
      have h2 := M.encL_len s.length
      rw [Wt.flat_text, List.length_append, List.length_append] at h1
      rw [List.foldl_cons, List.map_cons, List.sum_cons]
      omega
  have h1 := key (l.take k) st
  have h2 : ((l.take k).map fun s => s.length + 8).sum ≤ (l.map fun s => s.length + 8).sum := by
    conv => rhs; rw [← List.take_append_drop k l]
    rw [List.map_append, List.sum_append]; omega
  omega

end Go.Proofs.Ytihhgingdgepcaa
