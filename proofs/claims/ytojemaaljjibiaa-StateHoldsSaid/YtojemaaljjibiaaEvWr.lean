/-
  EvWr: the texts WriteSpec, Write, WriteT, EvW, WriteAll, EvX in one.
-/
import Derived.Test.YtojemaaljjibiaaStaOne
import Derived.Test.YtojemaaljjibiaaStaThree
import Derived.Test.YtojemaaljjibiaaStaTwo
import Derived.Deep.LoopGhost
import Derived.Deep.QuietTactic
import Derived.Deep.DeepCutAuto
import Derived.Deep.CutBlock
import Derived.Laws.CopyOwn
import Derived.Laws.MakeOwn
import Derived.Deep.RegionLaw
import Derived.Deep.DeepFit
import Derived.Test.YtojemaaljjibiaaEvCQ
namespace Go.Proofs.Ytojemaaljjibiaa
open Go.RowKit
set_option linter.unusedVariables false

namespace Wt
/-- The pieces, the newest first; is it spoiled? -/
abbrev St := List (List UInt8) × Bool
def flat (st : St) : List UInt8 := st.1.reverse.flatten
def raw (s : List UInt8) (st : St) : St := if s = [] then st else (s :: st.1, st.2)
def num (n : Int) (st : St) : St := raw (M.encL n) (if M.encL n = [] then (st.1, true) else st)
def text (s : List UInt8) (st : St) : St := raw s (num s.length st)
def flag (b : Bool) (st : St) : St := raw [if b then 1 else 0] st
def texts (l : List (List UInt8)) (st : St) : St := l.foldl (fun st s => text s st) (num l.length st)

theorem flat_raw (s : List UInt8) (st : St) : flat (raw s st) = flat st ++ s := by
  unfold raw
  split
  · rename_i h; simp [h]
  · simp [flat]
theorem flat_num (n : Int) (st : St) : flat (num n st) = flat st ++ M.encL n := by
  unfold num
  rw [flat_raw]
  split <;> rfl
theorem flat_text (s : List UInt8) (st : St) : flat (text s st) = flat st ++ (M.encL s.length ++ s) := by
  unfold text
  rw [flat_raw, flat_num, List.append_assoc]
theorem flat_flag (b : Bool) (st : St) : flat (flag b st) = flat st ++ [if b then 1 else 0] := flat_raw _ _
theorem flat_foldl : ∀ (l : List (List UInt8)) (st : St), flat (l.foldl (fun st s => text s st) st) = flat st ++ (l.map fun s => M.encL s.length ++ s).flatten := by
  intro l
  induction l with
  | nil => intro st; simp
  | cons s l ih => intro st; rw [List.foldl_cons, ih, flat_text]; simp
theorem flat_texts (l : List (List UInt8)) (st : St) : flat (texts l st) = flat st ++ (M.encL l.length ++ (l.map fun s => M.encL s.length ++ s).flatten) := by
  unfold texts
  rw [flat_foldl, flat_num, List.append_assoc]
theorem bad_raw (s : List UInt8) (st : St) : (raw s st).2 = st.2 := by unfold raw; split <;> rfl
theorem bad_num (n : Int) (st : St) : (num n st).2 = (st.2 || decide (M.encL n = [])) := by
  unfold num
  rw [bad_raw]
  split <;> simp_all
end Wt

/-- The pieces of the writer that lies in block g: their blocks are of type pt, those of their bytes of type bt. -/
def Chain (w : World) (g pt bt : Nat) : Option Addr → List (List UInt8) → Prop
  | P, [] => P = none
  | P, c :: cs => ∃ (q : Nat) (prev A : Option Addr) (cap bq : Nat), P = some ⟨q, 0, none⟩ ∧ q ≠ g ∧ bq ≠ g ∧ Has w q pt #[.pointer prev, .slice A c.length cap] ∧ Bytes w bq A c ∧ c ≠ [] ∧ (∃ bs fr, w.heap[bq]? = some (.cells bs bt fr)) ∧ Chain w g pt bt prev cs

theorem Chain.only {w w' : World} {g k pt bt : Nat} (ho : Only w w' k) : ∀ {P : Option Addr} {cs : List (List UInt8)}, Chain w g pt bt P cs → (k = g ∨ w.heap.size ≤ k) → Chain w' g pt bt P cs
  | P, [], h, _ => h
  | P, c :: cs, ⟨q, prev, A, cap, bq, hP, hq, hbq, hh, hy, hc, ⟨bs, fr, ht⟩, hr⟩, hk => by
    have h1 : q ≠ k := by rcases hk with rfl | hk; exact hq; have := hh.lt; omega
    have h2 : bq ≠ k := by rcases hk with rfl | hk; exact hbq; have := hy.lt hc; omega
    exact ⟨q, prev, A, cap, bq, hP, hq, hbq, ho.has hh h1, ho.bytes hy h2, hc, ⟨bs, fr, (ho.block bq (hy.lt hc) (fun e => h2 (by injection e))).trans ht⟩, Chain.only ho hr hk⟩
theorem Chain.below {w w' : World} {g pt bt B : Nat} (hb : Below B w w') (hB : w.heap.size ≤ B) {P : Option Addr} {cs : List (List UInt8)} (h : Chain w g pt bt P cs) : Chain w' g pt bt P cs :=
  Chain.only (k := w.heap.size + g) ⟨hb.os, hb.tape, hb.output, hb.size, fun i hi _ => hb.block i (by omega)⟩ h (Or.inr (by omega))
/-- A row of another type may grow. -/
theorem Chain.grown {w w' : World} {g pt bt e : Nat} {row : Option Nat} (hw : w.grownBy w' row) (hr : ∀ k, row = some k → ∃ bs fr, w.heap[k]? = some (.cells bs e fr)) (hp : e ≠ pt) (hb : e ≠ bt) : ∀ {P : Option Addr} {cs : List (List UInt8)}, Chain w g pt bt P cs → Chain w' g pt bt P cs
  | P, [], h => h
  | P, c :: cs, ⟨q, prev, A, cap, bq, hP, hq, hbq, hh, hy, hc, ⟨bs, fr, ht⟩, hrest⟩ => by
    have h1 : some q ≠ row := fun e' => by
      obtain ⟨bs', fr', h'⟩ := hr q e'.symm
      rw [Has] at hh
      rw [hh] at h'
      injection h' with h'; injection h' with _ h' _
      exact hp h'.symm
    have h2 : some bq ≠ row := fun e' => by
      obtain ⟨bs', fr', h'⟩ := hr bq e'.symm
      rw [ht] at h'
      injection h' with h'; injection h' with _ h' _
      exact hb h'.symm
    exact ⟨q, prev, A, cap, bq, hP, hq, hbq, (hw.block q hh.lt h1).trans hh, hy.keep (hw.block bq (hy.lt hc) h2), hc, ⟨bs, fr, (hw.block bq (hy.lt hc) h2).trans ht⟩, Chain.grown hw hr hp hb hrest⟩

/-- A row of texts, in one old block. -/
def SRow (w : World) (b off : Nat) (l : List (List UInt8)) : Prop := ∀ i (h : i < l.length), w.cell? ⟨b, off + i, none⟩ = some (.string (S l[i]))
theorem SRow.only {w w' : World} {b off g : Nat} {l : List (List UInt8)} (h : SRow w b off l) (ho : Only w w' g) (hne : b ≠ g) : SRow w' b off l := fun i hi =>
  (World.cell?_of_block (a := ⟨b, off + i, none⟩) (ho.block b (World.block_lt_of_cell? w ⟨b, off + i, none⟩ (h i hi)) (fun e => hne (by injection e)))).trans (h i hi)
end Go.Proofs.Ytojemaaljjibiaa

namespace Go.Proofs.Ytojemaaljjibiaa
open Go.RowKit
set_option linter.unusedVariables false

/-- A writer: block g is the struct; its pieces; whether it is spoiled. -/
def Wr (w : World) (g : Nat) (st : Wt.St) : Prop :=
  ∃ P : Option Addr, Has w g 111 #[.pointer P, .int .i64 (Wt.flat st).length, .bool st.2] ∧ Chain w g 141 5 P st.1
theorem Wr.lt {w : World} {g : Nat} {st : Wt.St} (h : Wr w g st) : g < w.heap.size := by
  obtain ⟨P, hh, _⟩ := h
  exact hh.lt
theorem Wr.below {w w' : World} {g B : Nat} {st : Wt.St} (h : Wr w g st) (hb : Below B w w') (hB : w.heap.size ≤ B) : Wr w' g st := by
  obtain ⟨P, hh, hc⟩ := h
  exact ⟨P, hh.below hb (by have := hh.lt; omega), hc.below hb hB⟩

set_option maxHeartbeats 1000000 in
theorem spoil_wr (g : Nat) (st : Wt.St) (w : World) (h : Wr w g st) :
    Calls Try.prog 103 #[.pointer (some ⟨g, 0, none⟩)] w fun r w' => r = .returned (.tuple #[]) ∧ Wr w' g (st.1, true) ∧ Only w w' g := by
  obtain ⟨P, hh, hc⟩ := h
  have h2 : w.cell? ⟨g, 2, none⟩ = some (.bool st.2) := hh.cell 2
  have hf := hh.free 2
  have hs := hh.set 2 (.bool true)
  have hcs := hc.only (Only.set w g 2 (.bool true)) (Or.inl rfl)
  have HS := Lib.hid hs; clear hs hh hc
  go_enter Try.func103, Try.ntmps103
  go_wp2_with fail
  go_returns
  exact ⟨rfl, ⟨P, HS.out, hcs⟩, Only.set _ _ _ _⟩

/-- The world behind a piece that was laid. -/
theorem raw_only (s : List UInt8) (g : Nat) (w : World) (P : Option Addr) (n : Int) :
    Only w ((((bworld w 5 s).setCell ⟨g, 0, none⟩ (.pointer (some ⟨w.heap.size + 1, 0, none⟩))).setCell ⟨g, 1, none⟩ (.int .i64 n)).alloc
      (.cells #[.pointer P, .slice (some ⟨w.heap.size, 0, none⟩) s.length (bcap w 5 s)] 141)) g :=
  ((((Only.of_below (bworld_below w _ s) g).trans (Only.set _ g 0 _)).trans (Only.set _ g 1 _)).trans (Only.of_below ((Below.refl _ _).alloc (Nat.le_refl _) _) g))
theorem raw_close (s : List UInt8) (g : Nat) (st : Wt.St) (w : World) (P : Option Addr) (hh : Has w g 111 #[.pointer P, .int .i64 (Wt.flat st).length, .bool st.2]) (hc : Chain w g 141 5 P st.1)
    (hfl : (Wt.flat (s :: st.1, st.2)).length = (Wt.flat st).length + s.length) (hs : ¬ s = []) :
    Wr ((((bworld w 5 s).setCell ⟨g, 0, none⟩ (.pointer (some ⟨w.heap.size + 1, 0, none⟩))).setCell ⟨g, 1, none⟩ (.int .i64 (((Wt.flat st).length : Int) + (s.length : Int)))).alloc
      (.cells #[.pointer P, .slice (some ⟨w.heap.size, 0, none⟩) s.length (bcap w 5 s)] 141)) g (s :: st.1, st.2) := by
  have hglt := hh.lt
  have hbw := bworld_below w 5 s
  have hsz := bworld_size w 5 s
  have h1 := (((hh.below hbw hglt).set 0 (.pointer (some ⟨w.heap.size + 1, 0, none⟩))).set 1 (.int .i64 (((Wt.flat st).length : Int) + (s.length : Int))))
  have c1 := (((hc.below hbw (Nat.le_refl _)).only (Only.set _ g 0 (.pointer (some ⟨w.heap.size + 1, 0, none⟩))) (Or.inl rfl)).only (Only.set _ g 1 (.int .i64 (((Wt.flat st).length : Int) + (s.length : Int)))) (Or.inl rfl))
  have hy0 : Bytes (bworld w 5 s) w.heap.size (some ⟨w.heap.size, 0, none⟩) s := fun _ => ⟨0, rfl, fun i hi => by rw [Nat.zero_add]; exact bworld_cell w _ s i hi⟩
  have hne : w.heap.size ≠ g := by omega
  have hy1 := ((Only.set _ g 1 (.int .i64 (((Wt.flat st).length : Int) + (s.length : Int)))).bytes ((Only.set _ g 0 (.pointer (some ⟨w.heap.size + 1, 0, none⟩))).bytes hy0 hne) hne)
  have ht0 : (bworld w 5 s).heap[w.heap.size]? = some (.cells (brow w 5 s) 5 ((brow w 5 s).size, (brow w 5 s).size + 1)) := by unfold bworld; exact heap_alloc_new w.drew _
  have ht1 := ((Only.set ((bworld w 5 s).setCell ⟨g, 0, none⟩ (.pointer (some ⟨w.heap.size + 1, 0, none⟩))) g 1 (.int .i64 (((Wt.flat st).length : Int) + (s.length : Int)))).block w.heap.size (by simp [World.setCell, hsz]) (fun e => hne (by injection e))).trans (((Only.set (bworld w 5 s) g 0 (.pointer (some ⟨w.heap.size + 1, 0, none⟩))).block w.heap.size (by rw [hsz]; omega) (fun e => hne (by injection e))).trans ht0)
  generalize hW3 : ((bworld w 5 s).setCell ⟨g, 0, none⟩ (.pointer (some ⟨w.heap.size + 1, 0, none⟩))).setCell ⟨g, 1, none⟩ (.int .i64 (((Wt.flat st).length : Int) + (s.length : Int))) = W3 at h1 c1 hy1 ht1 ⊢
  have hs3 : W3.heap.size = w.heap.size + 1 := by rw [← hW3]; simp [World.setCell, hsz]
  have hb4 : Below W3.heap.size W3 (W3.alloc (.cells #[.pointer P, .slice (some ⟨w.heap.size, 0, none⟩) s.length (bcap w 5 s)] 141)) := (Below.refl _ _).alloc (Nat.le_refl _) _
  have hm := Has.made W3 141 #[.pointer P, .slice (some ⟨w.heap.size, 0, none⟩) s.length (bcap w 5 s)]
  rw [hs3] at hm
  refine ⟨some ⟨w.heap.size + 1, 0, none⟩, ?_, w.heap.size + 1, P, some ⟨w.heap.size, 0, none⟩, bcap w 5 s, w.heap.size, rfl, by omega, hne, hm, (Only.of_below hb4 g).bytes hy1 hne, hs, ⟨_, _, (hb4.block w.heap.size (by omega)).trans ht1⟩, c1.below hb4 (Nat.le_refl _)⟩
  rw [hfl]
  have := h1.of_alloc (.cells #[.pointer P, .slice (some ⟨w.heap.size, 0, none⟩) s.length (bcap w 5 s)] 141)
  simpa using this

set_option maxHeartbeats 1000000 in
theorem raw_wr (s : List UInt8) (g : Nat) (st : Wt.St) (w : World) (h : Wr w g st) (hcap : (Wt.flat st).length + s.length ≤ 4611686018427387904) :
    Calls Try.prog 104 #[.pointer (some ⟨g, 0, none⟩), .string (S s)] w fun r w' => r = .returned (.tuple #[]) ∧ Wr w' g (Wt.raw s st) ∧ Only w w' g := by
  by_cases hs : s = []
  · subst hs
    have hr : Wt.raw [] st = st := by unfold Wt.raw; rw [if_pos rfl]
    rw [hr]
    clear hr
    go_enter Try.func104, Try.ntmps104
    go_wp2_with fail
    go_returns
    exact ⟨rfl, h, Only.refl _ _⟩
  · have hr : Wt.raw s st = (s :: st.1, st.2) := by unfold Wt.raw; rw [if_neg hs]
    have hfl : (Wt.flat (s :: st.1, st.2)).length = (Wt.flat st).length + s.length := by rw [← hr, Wt.flat_raw, List.length_append]
    rw [hr]
    clear hr
    have hse : s.isEmpty = false := by simpa using hs
    have HSE := Lib.hid hs; clear hs
    obtain ⟨P, hh, hc⟩ := h
    have h0 : w.cell? ⟨g, 0, none⟩ = some (.pointer P) := hh.cell 0
    have h1 : w.cell? ⟨g, 1, none⟩ = some (.int .i64 (Wt.flat st).length) := hh.cell 1
    have hf0 := hh.free 0
    have hf1 := hh.free 1
    have hglt := hh.lt
    have hcv := fun W => conv_bytes (P := Try.prog) Try.underlying9 Try.underlying78 Try.underlying5 W s
    have hbw := bworld_below w 5 s
    have hb0 : (bworld w 5 s).cell? ⟨g, 0, none⟩ = some (.pointer P) := (hbw.cell (p := ⟨g, 0, none⟩) hglt).trans h0
    have hb1 : (bworld w 5 s).cell? ⟨g, 1, none⟩ = some (.int .i64 (Wt.flat st).length) := (hbw.cell (p := ⟨g, 1, none⟩) hglt).trans h1
    have hbf0 : (bworld w 5 s).frozen? ⟨g, 0, none⟩ = false := (hbw.frozen (p := ⟨g, 0, none⟩) hglt).trans hf0
    have hbf1 : (bworld w 5 s).frozen? ⟨g, 1, none⟩ = false := (hbw.frozen (p := ⟨g, 1, none⟩) hglt).trans hf1
    have hg1 : g < w.heap.size + 1 := by omega
    have HH := Lib.hid hh; clear hh
    have HFL := Lib.hid hfl; clear hfl
    go_enter Try.func104, Try.ntmps104
    go_wp2_with fail
    go_returns
    exact ⟨rfl, raw_close s g st w P HH.out hc HFL.out HSE.out, raw_only s g w P _⟩

set_option maxHeartbeats 1000000 in
theorem wnum_wr (n : Int) (g : Nat) (st : Wt.St) (w : World) (h : Wr w g st) (hcap : (Wt.flat st).length ≤ 4611686018427387000) :
    Calls Try.prog 77 #[.pointer (some ⟨g, 0, none⟩), .int .i64 n] w fun r w' => r = .returned (.tuple #[]) ∧ Wr w' g (Wt.num n st) ∧ Only w w' g := by
  have hlen := M.encL_len n
  have hN := fun W => num_any n W
  have hW : Wt.num n st = Wt.raw (M.encL n) (if M.encL n = [] then (st.1, true) else st) := rfl
  generalize M.encL n = e at hlen hN hW
  have HN := Lib.hid hN; clear hN
  by_cases he : e = []
  · subst he
    rw [if_pos rfl] at hW
    have HW := Lib.hid hW; clear hW
    go_enter Try.func77, Try.ntmps77
    go_wp2_with fail
    refine (HN.out _).mono ?_
    rintro r w1 ⟨rfl, hb1⟩
    go_wp2_with fail
    refine (spoil_wr g st _ (h.below hb1 (Nat.le_refl _))).mono ?_
    rintro r w2 ⟨rfl, h2, ho2⟩
    go_wp2_with fail
    refine (raw_wr [] g _ _ h2 (by show (Wt.flat st).length + 0 ≤ _; omega)).mono ?_
    rintro r w3 ⟨rfl, h3, ho3⟩
    go_wp2_with fail
    go_returns
    rw [HW.out]
    exact ⟨rfl, h3, ((Only.of_below hb1 g).trans ho2).trans ho3⟩
  · rw [if_neg he] at hW
    have HW := Lib.hid hW; clear hW
    have hee : e.isEmpty = false := by simpa using he
    clear he
    go_enter Try.func77, Try.ntmps77
    go_wp2_with fail
    refine (HN.out _).mono ?_
    rintro r w1 ⟨rfl, hb1⟩
    go_wp2_with fail
    refine (raw_wr e g _ _ (h.below hb1 (Nat.le_refl _)) (by omega)).mono ?_
    rintro r w3 ⟨rfl, h3, ho3⟩
    go_wp2_with fail
    go_returns
    rw [HW.out]
    exact ⟨rfl, h3, (Only.of_below hb1 g).trans ho3⟩

set_option maxHeartbeats 1000000 in
theorem wtext_wr (s : List UInt8) (g : Nat) (st : Wt.St) (w : World) (h : Wr w g st) (hcap : (Wt.flat st).length + s.length ≤ 4611686018427380000) :
    Calls Try.prog 79 #[.pointer (some ⟨g, 0, none⟩), .string (S s)] w fun r w' => r = .returned (.tuple #[]) ∧ Wr w' g (Wt.text s st) ∧ Only w w' g := by
  have hN := wnum_wr s.length g st w h (by omega)
  have hfl : (Wt.flat (Wt.num s.length st)).length ≤ (Wt.flat st).length + 8 := by
    rw [Wt.flat_num, List.length_append]; have := M.encL_len s.length; omega
  have hW : Wt.text s st = Wt.raw s (Wt.num s.length st) := rfl
  generalize Wt.num s.length st = st1 at hN hfl hW
  have HN := Lib.hid hN; clear hN
  have HW := Lib.hid hW; clear hW
  go_enter Try.func79, Try.ntmps79
  go_wp2_with fail
  refine (HN.out).mono ?_
  rintro r w1 ⟨rfl, h1, ho1⟩
  go_wp2_with fail
  refine (raw_wr s g _ _ h1 (by omega)).mono ?_
  rintro r w3 ⟨rfl, h3, ho3⟩
  go_wp2_with fail
  go_returns
  rw [HW.out]
  exact ⟨rfl, h3, ho1.trans ho3⟩

set_option maxHeartbeats 1000000 in
theorem wflag_wr (b : Bool) (g : Nat) (st : Wt.St) (w : World) (h : Wr w g st) (hcap : (Wt.flat st).length ≤ 4611686018427380000) :
    Calls Try.prog 105 #[.pointer (some ⟨g, 0, none⟩), .bool b] w fun r w' => r = .returned (.tuple #[]) ∧ Wr w' g (Wt.flag b st) ∧ Only w w' g := by
  have h1 : ∀ c : UInt8, (⟨#[c]⟩ : ByteArray) = S [c] := fun _ => rfl
  cases b
  all_goals
    go_enter Try.func105, Try.ntmps105
    go_wp2_with fail
    refine (raw_wr _ g _ _ h (by simp only [List.length_cons, List.length_nil]; omega)).mono ?_
    rintro r w3 ⟨rfl, h3, ho3⟩
    go_wp2_with fail
    go_returns
    exact ⟨rfl, h3, ho3⟩

theorem flat_take_le (l : List (List UInt8)) (k : Nat) (st : Wt.St) : (Wt.flat ((l.take k).foldl (fun st s => Wt.text s st) st)).length ≤ (Wt.flat st).length + (l.map fun s => s.length + 8).sum := by
  have key : ∀ (l : List (List UInt8)) (st : Wt.St), (Wt.flat (l.foldl (fun st s => Wt.text s st) st)).length ≤ (Wt.flat st).length + (l.map fun s => s.length + 8).sum := by
    intro l
    induction l with
    | nil => intro st; simp
    | cons s l ih =>
      intro st
      have h1 := ih (Wt.text s st)
      have h2 := M.encL_len s.length
      rw [Wt.flat_text, List.length_append, List.length_append] at h1
      rw [List.foldl_cons, List.map_cons, List.sum_cons]
      omega
  have h1 := key (l.take k) st
  have h2 : ((l.take k).map fun s => s.length + 8).sum ≤ (l.map fun s => s.length + 8).sum := by
    conv => rhs; rw [← List.take_append_drop k l]
    rw [List.map_append, List.sum_append]; omega
  omega

end Go.Proofs.Ytojemaaljjibiaa

namespace Go.Proofs.Ytojemaaljjibiaa
open Go.RowKit
/-- The texts so far. -/
def sofar (l : List (List UInt8)) (k : Nat) (st : Wt.St) : Wt.St := (l.take k).foldl (fun st s => Wt.text s st) st
theorem sofar_zero (l : List (List UInt8)) (st : Wt.St) : sofar l 0 st = st := by simp [sofar]
theorem sofar_all (l : List (List UInt8)) (st : Wt.St) : sofar l l.length st = l.foldl (fun st s => Wt.text s st) st := by simp [sofar]
theorem sofar_succ (l : List (List UInt8)) (k : Nat) (h : k < l.length) (st : Wt.St) : sofar l (k + 1) st = Wt.text l[k] (sofar l k st) := by
  unfold sofar
  rw [List.take_succ_eq_append_getElem h, List.foldl_append]; rfl

set_option maxRecDepth 100000 in
set_option maxHeartbeats 1000000 in
theorem wtexts_wr (l : List (List UInt8)) (b off cap : Nat) (g : Nat) (st : Wt.St) (w : World) (h : Wr w g st) (hrow : SRow w b off l) (hbg : b ≠ g) (hcap : (Wt.flat st).length + (l.map fun s => s.length + 8).sum ≤ 1000000000000000) (hll : l.length ≤ 140737488355328) (hsl : ∀ s ∈ l, s.length ≤ 140737488355328) :
    Calls Try.prog 106 #[.pointer (some ⟨g, 0, none⟩), .slice (some ⟨b, off, none⟩) l.length cap] w fun r w' => r = .returned (.tuple #[]) ∧ Wr w' g (Wt.texts l st) ∧ Only w w' g := by
  have hN := wnum_wr l.length g st w h (by omega)
  have hT : Wt.texts l st = l.foldl (fun st s => Wt.text s st) (Wt.num l.length st) := rfl
  have hf0 := Wt.flat_num l.length st
  have hl8 := M.encL_len l.length
  generalize hst1 : Wt.num l.length st = st1 at hN hT hf0
  have hf1 : (Wt.flat st1).length ≤ (Wt.flat st).length + 8 := by rw [hf0, List.length_append]; omega
  have HN := Lib.hid hN; clear hN
  have HT := Lib.hid hT; clear hT hf0 hst1
  have HCAP := Lib.hid (And.intro hcap hf1); clear hcap hf1
  have HSL := Lib.hid hsl; clear hsl
  have HROW := Lib.hid hrow; clear hrow
  go_enter Try.func106, Try.ntmps106
  go_wp2_with fail
  refine (HN.out).mono ?_
  rintro r w1 ⟨rfl, h1, ho1⟩
  go_wp2_with fail
  go_loopw [11] (fun v11 wr => ∃ k : Nat, k ≤ l.length ∧ v11 = .int .i64 k ∧ Wr wr g (sofar l k st1) ∧ Only w wr g) (fun v11 _ => l.length - (intOf v11).toNat)
  case atStart =>
    have h0 : Wr w1 g (sofar l 0 st1) := (sofar_zero l st1).symm ▸ h1
    exact ⟨0, Nat.zero_le _, rfl, h0, ho1⟩
  case round =>
    obtain ⟨k, hk, rfl, hwk, hok⟩ := hrel
    by_cases hlt : k < l.length
    · have hcell := HROW.out.only hok hbg k hlt
      have hfk : (Wt.flat (sofar l k st1)).length ≤ _ := flat_take_le l k st1
      have hsk := HSL.out l[k] (List.getElem_mem hlt)
      have hk0 : (0 : Int) ≤ (k : Int) := by omega
      have hki : (k : Int) < (l.length : Int) := by omega
      have hnx := sofar_succ l k hlt st1
      have hX := wtext_wr l[k] g _ wr hwk (by have := HCAP.out.1; have := HCAP.out.2; omega)
      rw [← hnx] at hX
      have HX := Lib.hid hX; clear hX hnx hfk
      clear hsk
      generalize l[k] = s at hcell HX
      go_wp2_with fail
      refine (HX.out).mono ?_
      rintro r w2 ⟨rfl, h2, ho2⟩
      go_wp2_with fail
      go_roundw
      case rel => exact ⟨k + 1, by omega, by go_num, h2, hok.trans ho2⟩
      case measure => simp [intOf]; omega
    · have hke : k = l.length := by omega
      subst hke
      rw [sofar_all] at hwk
      go_wp2_with fail
      go_returns
      rw [HT.out]
      exact ⟨rfl, hwk, hok⟩
end Go.Proofs.Ytojemaaljjibiaa

namespace Go.Proofs.Ytojemaaljjibiaa
open Go.RowKit
set_option linter.unusedVariables false

/-- A call has laid these bytes. -/
def WPost (w : World) (g : Nat) (st : Wt.St) (x : List UInt8) (r : Ending) (w' : World) : Prop :=
  r = .returned (.tuple #[]) ∧ ∃ st' : Wt.St, Wr w' g st' ∧ Wt.flat st' = Wt.flat st ++ x ∧ (Wt.flat st').length = (Wt.flat st).length + x.length ∧ st'.2 = st.2 ∧ Only w w' g
theorem wpost {w : World} {g : Nat} {st st' : Wt.St} {x : List UInt8} {r : Ending} {w' : World} (hr : r = .returned (.tuple #[])) (hw : Wr w' g st') (hf : Wt.flat st' = Wt.flat st ++ x) (hb : st'.2 = st.2) (ho : Only w w' g) : WPost w g st x r w' :=
  ⟨hr, st', hw, hf, by rw [hf, List.length_append], hb, ho⟩
theorem encL_ne {n : Int} (h0 : 0 ≤ n) (h1 : n < 72057594037927936) : M.encL n ≠ [] := by
  rw [M.encL, if_pos ⟨h0, h1⟩]
  exact List.cons_ne_nil _ _
theorem Wt.good_num {n : Int} {st : Wt.St} (h0 : 0 ≤ n) (h1 : n < 72057594037927936) : (Wt.num n st).2 = st.2 := by
  rw [Wt.bad_num, decide_eq_false (encL_ne h0 h1), Bool.or_false]
theorem Wt.good_text {s : List UInt8} {st : Wt.St} (h : s.length ≤ 1000000) : (Wt.text s st).2 = st.2 := by
  unfold Wt.text
  rw [Wt.bad_raw, Wt.good_num (by omega) (by omega)]
theorem Wt.good_foldl : ∀ (l : List (List UInt8)) (st : Wt.St), (∀ x ∈ l, x.length ≤ 1000000) → (l.foldl (fun st s => Wt.text s st) st).2 = st.2
  | [], st, _ => rfl
  | x :: l, st, h => by
    rw [List.foldl_cons, Wt.good_foldl l _ (fun y hy => h y (List.mem_cons_of_mem _ hy)), Wt.good_text (h x (List.mem_cons_self ..))]
theorem Wt.good_texts {l : List (List UInt8)} {st : Wt.St} (hl : l.length ≤ 1000000) (h : ∀ x ∈ l, x.length ≤ 1000000) : (Wt.texts l st).2 = st.2 := by
  unfold Wt.texts
  rw [Wt.good_foldl l _ h, Wt.good_num (by omega) (by omega)]
theorem wnum_p (n : Int) (g : Nat) (st : Wt.St) (w : World) (h : Wr w g st) (h0 : 0 ≤ n) (h1 : n < 72057594037927936) (hcap : (Wt.flat st).length ≤ 1000000000) :
    Calls Try.prog 77 #[.pointer (some ⟨g, 0, none⟩), .int .i64 n] w (WPost w g st (M.encL n)) :=
  (wnum_wr n g st w h (by omega)).mono fun r w' ⟨a, b, c⟩ => wpost a b (Wt.flat_num n st) (Wt.good_num h0 h1) c
theorem wtext_p (s : List UInt8) (g : Nat) (st : Wt.St) (w : World) (h : Wr w g st) (hs : s.length ≤ 1000000) (hcap : (Wt.flat st).length ≤ 1000000000) :
    Calls Try.prog 79 #[.pointer (some ⟨g, 0, none⟩), .string (S s)] w (WPost w g st (Ev.txt s)) :=
  (wtext_wr s g st w h (by omega)).mono fun r w' ⟨a, b, c⟩ => wpost a b (Wt.flat_text s st) (Wt.good_text hs) c
theorem wflag_p (b : Bool) (g : Nat) (st : Wt.St) (w : World) (h : Wr w g st) (hcap : (Wt.flat st).length ≤ 1000000000) :
    Calls Try.prog 105 #[.pointer (some ⟨g, 0, none⟩), .bool b] w (WPost w g st (Ev.flg b)) :=
  (wflag_wr b g st w h (by omega)).mono fun r w' ⟨a, b', c⟩ => wpost a b' (Wt.flat_flag b st) (Wt.bad_raw _ st) c
set_option maxRecDepth 100000 in
set_option maxHeartbeats 1000000 in
theorem wtexts_none (A : Option Addr) (cap : Nat) (g : Nat) (st : Wt.St) (w : World) (h : Wr w g st) (hcap : (Wt.flat st).length ≤ 1000000000) :
    Calls Try.prog 106 #[.pointer (some ⟨g, 0, none⟩), .slice A 0 cap] w fun r w' => r = .returned (.tuple #[]) ∧ Wr w' g (Wt.texts [] st) ∧ Only w w' g := by
  have HN := Lib.hid (wnum_wr 0 g st w h (by omega))
  have HT : Hid (Wt.texts [] st = Wt.num 0 st) := Lib.hid rfl
  generalize Wt.texts [] st = st2 at HT ⊢
  go_enter Try.func106, Try.ntmps106
  go_wp2_with fail
  refine (HN.out).mono ?_
  rintro r w1 ⟨rfl, h1, ho1⟩
  go_wp2_with fail
  go_loopw [11] (fun v11 wr => v11 = .int .i64 0 ∧ Wr wr g st2 ∧ Only w wr g) (fun _ _ => 0)
  case atStart => exact ⟨rfl, by rw [HT.out]; exact h1, ho1⟩
  case round =>
    obtain ⟨rfl, h2, ho2⟩ := hrel
    go_wp2_with fail
    go_returns
    exact ⟨rfl, h2, ho2⟩
theorem wtexts_p (l : List (List UInt8)) (A : Option Addr) (cap : Nat) (g : Nat) (st : Wt.St) (w : World) (h : Wr w g st) (hr : RowC w [g] A (tvs l)) (hl : l.length ≤ 1000) (hs : ∀ x ∈ l, x.length ≤ 1000) (hcap : (Wt.flat st).length ≤ 1000000000) :
    Calls Try.prog 106 #[.pointer (some ⟨g, 0, none⟩), .slice A l.length cap] w (WPost w g st (M.encL l.length ++ l.flatMap Ev.txt)) := by
  have hfl : Wt.flat (Wt.texts l st) = Wt.flat st ++ (M.encL l.length ++ l.flatMap Ev.txt) := by
    rw [Wt.flat_texts, List.flatMap_def]; rfl
  have hg := Wt.good_texts (l := l) (st := st) (by omega) (fun x hx => by have := hs x hx; omega)
  by_cases hl0 : l = []
  · subst hl0
    exact (wtexts_none A cap g st w h hcap).mono fun r w' ⟨a, b, c⟩ => wpost a b hfl hg c
  · have hpos : 0 < l.length := List.length_pos_iff.2 hl0
    obtain ⟨b, off, rfl, hb, hn, -⟩ := RowT.get hr 0 hpos
    have hrow : SRow w b off l := fun i hi => by
      obtain ⟨b', off', e, -, -, hc⟩ := RowT.get hr i hi
      injection e with e
      injection e with e1 e2
      rw [e1, e2]; exact hc
    have hsum : (l.map fun s => s.length + 8).sum ≤ l.length * 1008 := by
      clear hr hrow hfl hg hpos hl0 hl hcap h hb hn
      induction l with
      | nil => simp
      | cons x l ih =>
        have h1 := hs x (List.mem_cons_self ..)
        have h2 := ih (fun y hy => hs y (List.mem_cons_of_mem _ hy))
        rw [List.map_cons, List.sum_cons, List.length_cons, Nat.succ_mul]
        omega
    have hm : l.length * 1008 ≤ 1000 * 1008 := Nat.mul_le_mul_right _ hl
    exact (wtexts_wr l b off cap g st w h hrow (fun e => hn (by rw [e]; exact List.mem_singleton.2 rfl)) (by omega) (by omega) (fun x hx => by have := hs x hx; omega)).mono fun r w' ⟨a, b, c⟩ => wpost a b hfl hg c
theorem evFlat_next {α : Type} (f : α → List UInt8) (l : List α) (k : Nat) (hk : k < l.length) : (l.take (k + 1)).flatMap f = (l.take k).flatMap f ++ f (l[k]'hk) := by
  rw [List.take_succ_eq_append_getElem hk, List.flatMap_append]; simp
theorem evFlat_part {α : Type} (f : α → List UInt8) (l : List α) (k : Nat) : ((l.take k).flatMap f).length ≤ (l.flatMap f).length := by
  conv => rhs; rw [← List.take_append_drop k l, List.flatMap_append, List.length_append]
  omega
set_option maxRecDepth 100000 in
set_option maxHeartbeats 4000000 in
theorem wslip_any (x : Slp) (gn : Bool) (g : Nat) (st : Wt.St) (w : World) (h : Wr w g st) (hx : Ev.slipR gn x = true) (hcap : (Wt.flat st).length ≤ 100000000) :
    Calls Try.prog 107 #[.pointer (some ⟨g, 0, none⟩), .agg #[.string (S x.n), .string (S x.p), .string (S x.c), .bool x.e]] w (WPost w g st (Ev.encS x)) := by
  obtain ⟨q1, q2, q3, q4⟩ := Ev.slipR_iff.1 hx
  have qn := (Pap.word_len q1).2
  have hlen := Ev.encS_len hx
  have hE : Ev.encS x = Ev.txt x.n ++ Ev.txt x.p ++ Ev.flg x.e ++ (if x.e then [] else Ev.txt x.c) := rfl
  obtain ⟨n, p, c, e⟩ := x
  dsimp only at *
  have hlc : c.length ≤ 1000 := by
    cases e with
    | true => rw [q3 rfl]; exact Nat.zero_le _
    | false => have := q4 rfl; omega
  have l1 : (Ev.txt n).length ≤ 18 := by have := Ev.txt_len (s := n) (by omega); omega
  have l2 : (Ev.txt p).length ≤ 34 := by have := Ev.txt_len (s := p) (by omega); omega
  have l3 : (Ev.flg e).length = 1 := rfl
  have hh := Has.made w 51 #[.string (S n), .string (S p), .string (S c), .bool e]
  have hb : Below w.heap.size w (w.alloc (.cells #[.string (S n), .string (S p), .string (S c), .bool e] 51)) := (Below.refl _ w).alloc (Nat.le_refl _) _
  have hw0 := h.below hb (Nat.le_refl _)
  have hne : w.heap.size ≠ g := by have := h.lt; omega
  have HO := Lib.hid (Only.of_below hb g)
  have HT := Lib.hid (fun W st (hW : Wr W g st) (hc : (Wt.flat st).length ≤ 1000000000) => wtext_p n g st W hW (by omega) hc)
  have HP := Lib.hid (fun W st (hW : Wr W g st) (hc : (Wt.flat st).length ≤ 1000000000) => wtext_p p g st W hW (by omega) hc)
  have HC := Lib.hid (fun W st (hW : Wr W g st) (hc : (Wt.flat st).length ≤ 1000000000) => wtext_p c g st W hW (by omega) hc)
  have HF := Lib.hid (fun W st (hW : Wr W g st) (hc : (Wt.flat st).length ≤ 1000000000) => wflag_p e g st W hW hc)
  have HE := Lib.hid hE
  clear hE hlen q1 q2 q3 q4 hx qn
  generalize Ev.encS ⟨n, p, c, e⟩ = E at HE ⊢
  generalize Ev.txt n = tn at *
  generalize Ev.txt p = tp at *
  generalize Ev.flg e = tf at *
  generalize Ev.txt c = tc at *
  go_enter Try.func107, Try.ntmps107
  go_upto_region 1 with fail
  generalize w.alloc (.cells #[.string (S n), .string (S p), .string (S c), .bool e] 51) = W0 at hh hb hw0 HO ⊢
  generalize w.heap.size = b0 at hh hne ⊢
  have HH := Lib.hid hh
  have y0 : W0.cell? ⟨b0, 0, none⟩ = some (.string (S n)) := hh.cell 0
  clear hh hb
  go_wp2_with fail
  refine (HT.out _ _ hw0 (by omega)).mono ?_
  rintro r w1 ⟨rfl, st1, hw1, f1, n1, b1, o1⟩
  have HO1 := Lib.hid (HO.out.trans o1)
  have HH1 := Lib.hid (o1.has HH.out hne)
  have F1 := Lib.hid (And.intro f1 b1)
  clear f1 b1 o1 y0 HH HO hw0 HT
  have y1 : w1.cell? ⟨b0, 1, none⟩ = some (.string (S p)) := HH1.out.cell 1
  go_wp2_with fail
  refine (HP.out _ _ hw1 (by omega)).mono ?_
  rintro r w2 ⟨rfl, st2, hw2, f2, n2, b2, o2⟩
  have HO2 := Lib.hid (HO1.out.trans o2)
  have HH2 := Lib.hid (o2.has HH1.out hne)
  have F2 := Lib.hid (And.intro f2 b2)
  clear f2 b2 o2 y1 HH1 HO1 hw1 HP
  have y3 : w2.cell? ⟨b0, 3, none⟩ = some (.bool e) := HH2.out.cell 3
  go_wp2_with fail
  refine (HF.out _ _ hw2 (by omega)).mono ?_
  rintro r w3 ⟨rfl, st3, hw3, f3, n3, b3, o3⟩
  have HO3 := Lib.hid (HO2.out.trans o3)
  have HH3 := Lib.hid (o3.has HH2.out hne)
  have F3 := Lib.hid (And.intro f3 b3)
  clear f3 b3 o3 y3 HH2 HO2 hw2 HF
  have z3 : w3.cell? ⟨b0, 3, none⟩ = some (.bool e) := HH3.out.cell 3
  cases e with
  | true =>
    go_wp2_with fail
    go_returns
    exact wpost rfl hw3 (by rw [F3.out.1, F2.out.1, F1.out.1, HE.out, if_pos trivial]; simp only [List.append_assoc, List.append_nil]) (by rw [F3.out.2, F2.out.2, F1.out.2]) HO3.out
  | false =>
    have z2 : w3.cell? ⟨b0, 2, none⟩ = some (.string (S c)) := HH3.out.cell 2
    go_wp2_with fail
    refine (HC.out _ _ hw3 (by omega)).mono ?_
    rintro r w4 ⟨rfl, st4, hw4, f4, n4, b4, o4⟩
    go_wp2_with fail
    go_returns
    exact wpost rfl hw4 (by rw [f4, F3.out.1, F2.out.1, F1.out.1, HE.out, if_neg (by decide)]; simp only [List.append_assoc]) (by rw [b4, F3.out.2, F2.out.2, F1.out.2]) (HO3.out.trans o4)
set_option maxRecDepth 100000 in
set_option maxHeartbeats 4000000 in
theorem wentry_any (e : Ent) (A B : Option Addr) (ca cb : Nat) (g : Nat) (st : Wt.St) (w : World) (h : Wr w g st) (hin : EntIn w [g] e A ca B cb) (hx : Ev.entR e = true) (hcap : (Wt.flat st).length ≤ 100000) :
    Calls Try.prog 78 #[.pointer (some ⟨g, 0, none⟩), .agg #[.string (S e.id), .int .i64 e.cls, .int .i64 e.born, .int .i64 e.slot, .slice A e.L.length ca, .bool e.gone, .slice B e.H.length cb]] w (WPost w g st (Ev.encE e)) := by
  obtain ⟨q1, q2, q3, q4, q5, q6, q7, q8, q9, q10⟩ := Ev.entR_iff.1 hx
  have qn := (Pap.word_len q1).2
  have hlen := Ev.encE_len hx
  have hE : Ev.encE e = Ev.txt e.id ++ M.encL e.cls ++ M.encL e.born ++ M.encL e.slot ++ Ev.flg e.gone ++ M.encL e.H.length ++ e.H.flatMap Ev.txt ++ M.encL e.L.length ++ e.L.flatMap Ev.encS := rfl
  have q7' : ∀ x ∈ e.H, x.length ≤ 1000 := fun x hx => by have := (Pap.word_len (q7 x hx)).2; omega
  obtain ⟨id, cls, born, slot, L, gone, H⟩ := e
  dsimp only at *
  have hl2 := congrArg List.length hE
  simp only [List.length_append] at hl2
  have hh := Has.made w 33 #[.string (S id), .int .i64 cls, .int .i64 born, .int .i64 slot, .slice A L.length ca, .bool gone, .slice B H.length cb]
  have hb : Below w.heap.size w (w.alloc (.cells #[.string (S id), .int .i64 cls, .int .i64 born, .int .i64 slot, .slice A L.length ca, .bool gone, .slice B H.length cb] 33)) := (Below.refl _ w).alloc (Nat.le_refl _) _
  have hw0 := h.below hb (Nat.le_refl _)
  have hne : w.heap.size ≠ g := by have := h.lt; omega
  have hsz : w.heap.size < (w.alloc (.cells #[.string (S id), .int .i64 cls, .int .i64 born, .int .i64 slot, .slice A L.length ca, .bool gone, .slice B H.length cb] 33)).heap.size := by rw [asize]; omega
  have HIN := Lib.hid (hin.below hb)
  have HO := Lib.hid (Only.of_below hb g)
  have HT := Lib.hid (fun W st (hW : Wr W g st) (hc : (Wt.flat st).length ≤ 1000000000) => wtext_p id g st W hW (by omega) hc)
  have HN1 := Lib.hid (fun W st (hW : Wr W g st) (hc : (Wt.flat st).length ≤ 1000000000) => wnum_p cls g st W hW q2.1 (by omega) hc)
  have HN2 := Lib.hid (fun W st (hW : Wr W g st) (hc : (Wt.flat st).length ≤ 1000000000) => wnum_p born g st W hW q3.1 (by omega) hc)
  have HN3 := Lib.hid (fun W st (hW : Wr W g st) (hc : (Wt.flat st).length ≤ 1000000000) => wnum_p slot g st W hW q4.1 (by omega) hc)
  have HF := Lib.hid (fun W st (hW : Wr W g st) (hc : (Wt.flat st).length ≤ 1000000000) => wflag_p gone g st W hW hc)
  have HX := Lib.hid (fun W st (hW : Wr W g st) (hr : RowC W [g] B (tvs H)) (hc : (Wt.flat st).length ≤ 1000000000) => wtexts_p H B cb g st W hW hr (by omega) q7' hc)
  have HN4 := Lib.hid (fun W st (hW : Wr W g st) (hc : (Wt.flat st).length ≤ 1000000000) => wnum_p (L.length : Int) g st W hW (by omega) (by omega) hc)
  have HSL := Lib.hid (fun (i : Nat) (hi : i < L.length) W st (hW : Wr W g st) (hc : (Wt.flat st).length ≤ 100000000) => wslip_any (L[i]'hi) gone g st W hW (q9 _ (List.getElem_mem hi)) hc)
  have HPT := Lib.hid (fun k => evFlat_part Ev.encS L k)
  have hL12 := q5.2
  have HE := Lib.hid hE
  clear hE q1 q2 q3 q4 q5 q6 q7 q8 q9 q10 hx qn q7' hin
  generalize Ev.encE ⟨id, cls, born, slot, L, gone, H⟩ = E at HE hlen hl2 ⊢
  generalize Ev.txt id = p1 at *
  generalize M.encL cls = p2 at *
  generalize M.encL born = p3 at *
  generalize M.encL slot = p4 at *
  generalize Ev.flg gone = p5 at *
  generalize M.encL (H.length : Int) = p6 at *
  generalize H.flatMap Ev.txt = p7 at *
  generalize M.encL (L.length : Int) = p8 at *
  go_enter Try.func78, Try.ntmps78
  go_upto_region 1 with fail
  generalize w.alloc (.cells #[.string (S id), .int .i64 cls, .int .i64 born, .int .i64 slot, .slice A L.length ca, .bool gone, .slice B H.length cb] 33) = W0 at hh hb hw0 HO HIN hsz ⊢
  generalize w.heap.size = b0 at hh hne hsz ⊢
  have HH0 := Lib.hid hh
  have HO0 : Hid (Only W0 W0 g) := Lib.hid (Only.refl _ _)
  clear hh hb
  have y : W0.cell? ⟨b0, 0, none⟩ = some (.string (S id)) := HH0.out.cell 0
  go_wp2_with fail
  refine (HT.out _ _ hw0 (by omega)).mono ?_
  rintro r w1 ⟨rfl, st1, hw1, f, n1, b, o⟩
  have HO1 := Lib.hid (HO0.out.trans o)
  have HH1 := Lib.hid (o.has HH0.out hne)
  have F1 : Hid (Wt.flat st1 = Wt.flat st ++ (p1) ∧ st1.2 = st.2) := Lib.hid ⟨f, b⟩
  clear f b o y HH0 HO0 hw0 HT
  have y : w1.cell? ⟨b0, 1, none⟩ = some (.int .i64 cls) := HH1.out.cell 1
  go_wp2_with fail
  refine (HN1.out _ _ hw1 (by omega)).mono ?_
  rintro r w2 ⟨rfl, st2, hw2, f, n2, b, o⟩
  have HO2 := Lib.hid (HO1.out.trans o)
  have HH2 := Lib.hid (o.has HH1.out hne)
  have F2 : Hid (Wt.flat st2 = Wt.flat st ++ (p1++p2) ∧ st2.2 = st.2) := Lib.hid ⟨by rw [f, F1.out.1]; simp only [List.append_assoc], by rw [b, F1.out.2]⟩
  clear f b o y HH1 HO1 hw1 HN1 F1
  have y : w2.cell? ⟨b0, 2, none⟩ = some (.int .i64 born) := HH2.out.cell 2
  go_wp2_with fail
  refine (HN2.out _ _ hw2 (by omega)).mono ?_
  rintro r w3 ⟨rfl, st3, hw3, f, n3, b, o⟩
  have HO3 := Lib.hid (HO2.out.trans o)
  have HH3 := Lib.hid (o.has HH2.out hne)
  have F3 : Hid (Wt.flat st3 = Wt.flat st ++ (p1++p2++p3) ∧ st3.2 = st.2) := Lib.hid ⟨by rw [f, F2.out.1]; simp only [List.append_assoc], by rw [b, F2.out.2]⟩
  clear f b o y HH2 HO2 hw2 HN2 F2
  have y : w3.cell? ⟨b0, 3, none⟩ = some (.int .i64 slot) := HH3.out.cell 3
  go_wp2_with fail
  refine (HN3.out _ _ hw3 (by omega)).mono ?_
  rintro r w4 ⟨rfl, st4, hw4, f, n4, b, o⟩
  have HO4 := Lib.hid (HO3.out.trans o)
  have HH4 := Lib.hid (o.has HH3.out hne)
  have F4 : Hid (Wt.flat st4 = Wt.flat st ++ (p1++p2++p3++p4) ∧ st4.2 = st.2) := Lib.hid ⟨by rw [f, F3.out.1]; simp only [List.append_assoc], by rw [b, F3.out.2]⟩
  clear f b o y HH3 HO3 hw3 HN3 F3
  have y : w4.cell? ⟨b0, 5, none⟩ = some (.bool gone) := HH4.out.cell 5
  go_wp2_with fail
  refine (HF.out _ _ hw4 (by omega)).mono ?_
  rintro r w5 ⟨rfl, st5, hw5, f, n5, b, o⟩
  have HO5 := Lib.hid (HO4.out.trans o)
  have HH5 := Lib.hid (o.has HH4.out hne)
  have F5 : Hid (Wt.flat st5 = Wt.flat st ++ (p1++p2++p3++p4++p5) ∧ st5.2 = st.2) := Lib.hid ⟨by rw [f, F4.out.1]; simp only [List.append_assoc], by rw [b, F4.out.2]⟩
  clear f b o y HH4 HO4 hw4 HF F4
  have y : w5.cell? ⟨b0, 6, none⟩ = some (.slice B H.length cb) := HH5.out.cell 6
  go_wp2_with fail
  refine (HX.out _ _ hw5 (HIN.out.rh.mv (Mv.of_only HO5.out (s := [g]) (List.mem_singleton.2 rfl)) (fun x hx => hx)) (by omega)).mono ?_
  rintro r w6 ⟨rfl, st6, hw6, f, n6, b, o⟩
  have HO6 := Lib.hid (HO5.out.trans o)
  have HH6 := Lib.hid (o.has HH5.out hne)
  have F6 : Hid (Wt.flat st6 = Wt.flat st ++ (p1++p2++p3++p4++p5++(p6 ++ p7)) ∧ st6.2 = st.2) := Lib.hid ⟨by rw [f, F5.out.1]; simp only [List.append_assoc], by rw [b, F5.out.2]⟩
  rw [List.length_append] at n6
  clear f b o y HH5 HO5 hw5 HX F5
  have y : w6.cell? ⟨b0, 4, none⟩ = some (.slice A L.length ca) := HH6.out.cell 4
  go_wp2_with fail
  refine (HN4.out _ _ hw6 (by omega)).mono ?_
  rintro r w7 ⟨rfl, st7, hw7, f, n7, b, o⟩
  have HO7 := Lib.hid (HO6.out.trans o)
  have HH7 := Lib.hid (o.has HH6.out hne)
  have F7 : Hid (Wt.flat st7 = Wt.flat st ++ (p1++p2++p3++p4++p5++(p6 ++ p7)++p8) ∧ st7.2 = st.2) := Lib.hid ⟨by rw [f, F6.out.1]; simp only [List.append_assoc], by rw [b, F6.out.2]⟩
  clear f b o y HH6 HO6 hw6 HN4 F6
  have hn8 : (Wt.flat st7).length ≤ 100000 + 3600 := by omega
  clear n1 n2 n3 n4 n5 n6 n7
  have y4 : w7.cell? ⟨b0, 4, none⟩ = some (.slice A L.length ca) := HH7.out.cell 4
  go_wp2_with fail
  clear y4
  go_loopg [38] L.length (fun n v38 wr => ∃ (k : Nat) (st8 : Wt.St), k + n = L.length ∧ v38 = .int .i64 (k : Int) ∧ Wr wr g st8 ∧ Hid (Wt.flat st8 = Wt.flat st7 ++ (L.take k).flatMap Ev.encS ∧ st8.2 = st7.2) ∧ Hid (Only W0 wr g))
  case atStart => exact ⟨0, st7, Nat.zero_add _, rfl, hw7, Lib.hid ⟨by simp, rfl⟩, HO7⟩
  case round =>
    clear hw7
    obtain ⟨k, st8, hkn, rfl, hw8, F8, HO8⟩ := hrel
    cases gk with
    | zero =>
      obtain rfl : k = L.length := by omega
      have hlt : ¬ (L.length : Int) < (L.length : Int) := by omega
      go_wp2_with fail
      go_returns
      have f8 := F8.out.1
      rw [List.take_of_length_le (Nat.le_refl _)] at f8
      exact wpost rfl hw8 (by rw [f8, F7.out.1, HE.out]; simp only [List.append_assoc]) (by rw [F8.out.2, F7.out.2]) (HO.out.trans HO8.out)
    | succ n =>
      have hlt : (k : Int) < (L.length : Int) := by omega
      have hk : k < L.length := by omega
      have hinc : IntKind.i64.wrap ((k : Int) + 1) = (k : Int) + 1 := by rw [IntKind.wrap_i64]; omega
      have hkc : (k : Int) < (ca : Int) := by have := HIN.out.la; dsimp only at this; omega
      have hk0 : (0 : Int) ≤ (k : Int) := by omega
      obtain ⟨bl, ol, hA, hbl, hng, p0, p1', p2', p3'⟩ := RowP.get (HIN.out.rl.mv (Mv.of_only HO8.out (s := [g]) (List.mem_singleton.2 rfl)) (fun x hx => hx)) k hk
      have HC := Lib.hid (HSL.out k hk)
      have HST := Lib.hid (evFlat_next Ev.encS L k hk)
      have hfl : (Wt.flat st8).length ≤ 100000000 := by
        have h1 := HPT.out k
        rw [F8.out.1, List.length_append]
        omega
      dsimp only at p0 p1' p2' p3'
      subst hA
      generalize L[k]'hk = x at p0 p1' p2' p3' HST HC
      obtain ⟨xn, xp, xc, xe⟩ := x
      dsimp only at p0 p1' p2' p3'
      have HN := Lib.hid hkn
      clear hkn
      have hb9 : Below wr.heap.size wr (wr.alloc (.cells #[.string (S xn), .string (S xp), .string (S xc), .bool xe] 51)) := (Below.refl _ wr).alloc (Nat.le_refl _) _
      have hw9 := hw8.below hb9 (Nat.le_refl _)
      have HO9 := Lib.hid (HO8.out.trans (Only.of_below hb9 g))
      have hsl := Has.made wr 51 #[.string (S xn), .string (S xp), .string (S xc), .bool xe]
      clear hbl hng HSL
      go_upto_region 11 with fail
      clear p0 p1' p2' p3' hw8 hb9
      generalize wr.alloc (.cells #[.string (S xn), .string (S xp), .string (S xc), .bool xe] 51) = W9 at hw9 HO9 hsl ⊢
      generalize wr.heap.size = sb at hsl ⊢
      have x0 : W9.cell? ⟨sb, 0, none⟩ = some (.string (S xn)) := hsl.cell 0
      have x1 : W9.cell? ⟨sb, 1, none⟩ = some (.string (S xp)) := hsl.cell 1
      have x2 : W9.cell? ⟨sb, 2, none⟩ = some (.string (S xc)) := hsl.cell 2
      have x3 : W9.cell? ⟨sb, 3, none⟩ = some (.bool xe) := hsl.cell 3
      clear hsl
      go_wp2_with fail
      refine (HC.out _ _ hw9 hfl).mono ?_
      rintro r w10 ⟨rfl, st10, hw10, f, n10, b, o⟩
      have HR : Hid (Wt.flat st10 = Wt.flat st7 ++ (L.take (k + 1)).flatMap Ev.encS ∧ st10.2 = st7.2) := Lib.hid ⟨by rw [f, F8.out.1, HST.out, List.append_assoc], by rw [b, F8.out.2]⟩
      have HOR := Lib.hid (HO9.out.trans o)
      clear f b o n10 x0 x1 x2 x3 hw9 HO9 F8 HO8 HST HC hfl
      go_wp2_with fail
      go_roundg n
      case measure => omega
      case rel => exact ⟨k + 1, st10, by have := HN.out; omega, by go_num, hw10, HR, HOR⟩
end Go.Proofs.Ytojemaaljjibiaa

namespace Go.Proofs.Ytojemaaljjibiaa
open Go.RowKit
set_option linter.unusedVariables false

theorem u8info : (Try.prog.info? 5).map (fun i => (i.zero, i.size, i.bytes)) = some (some (.int .u8 0), 1, 1) := by kernel_rfl
theorem u8size : (Try.prog.info? 5).map (·.size) = some 1 := by kernel_rfl

theorem made_zeros (n : Nat) : madeCells (Value.int .u8 0).cells n = (bcells (List.replicate n 0)).toArray := by
  apply Array.ext
  · simp [bcells, madeCells]
  · intro i h1 h2
    simp [bcells, madeCells, Value.cells, Nat.mod_one]
theorem splice_zeros (k : Nat) (c suf : List UInt8) :
    splice (bcells (List.replicate (k + c.length) 0 ++ suf)) k (bcells c) = bcells (List.replicate k 0 ++ (c ++ suf)) := by
  have h1 : List.replicate (k + c.length) (0 : UInt8) = List.replicate k 0 ++ List.replicate c.length 0 := List.replicate_append_replicate.symm
  rw [h1]
  simp only [splice, bcells, List.map_append, List.append_assoc, List.length_map]
  rw [List.take_append_of_le_length (by simp), List.take_of_length_le (by simp)]
  congr 2
  rw [← List.append_assoc, List.drop_append]
  simp
theorem bcells_one (l : List UInt8) : ∀ v ∈ bcells l, v.oneCell' = true := by
  intro v hv
  simp only [bcells, List.mem_map] at hv
  obtain ⟨c, _, rfl⟩ := hv
  rfl

set_option maxHeartbeats 2000000 in
theorem all_good (g : Nat) (st : Wt.St) (w : World) (h : Wr w g st) (hgood : st.2 = false) (hcap : (Wt.flat st).length ≤ 281474976710656) :
    Calls Try.prog 80 #[.pointer (some ⟨g, 0, none⟩)] w fun r w' => r = .returned (.tuple #[.string (S (Wt.flat st)), .bool true]) ∧ Below w.heap.size w w' := by
  obtain ⟨P, hh, hc⟩ := h
  have h0 : w.cell? ⟨g, 0, none⟩ = some (.pointer P) := hh.cell 0
  have h1 : w.cell? ⟨g, 1, none⟩ = some (.int .i64 (Wt.flat st).length) := hh.cell 1
  have h2 : w.cell? ⟨g, 2, none⟩ = some (.bool false) := by rw [hh.cell 2, ← hgood]; rfl
  have hglt := hh.lt
  have hz : (Wt.flat st).length = (Wt.flat (st.1, false)).length := rfl
  have hflat : Wt.flat st = Wt.flat (st.1, false) := rfl
  generalize hL : Wt.flat st = L at h1 hcap hz hflat ⊢
  have hz2 : L = Wt.flat (st.1, false) := hflat
  have HZ := Lib.hid hz2; clear hz hflat hz2 hL
  obtain ⟨i0, hi, hz0, hz1, hz2⟩ := info_parts u8info
  obtain ⟨n, hn⟩ : ∃ n, L.length = n := ⟨_, rfl⟩
  rw [hn] at h1 hcap
  have HN := Lib.hid hn; clear hn
  have hmk : ∀ W : World, (Instr.makeSlice 78 (.int .i64 (n : Int)) (.int .i64 (n : Int))).run Try.prog W = .ok (.slice (some ⟨W.heap.size, 0, none⟩) n n) (W.alloc (.cells (bcells (List.replicate n 0)).toArray 5)) := by
    intro W
    have h := run_make (P := Try.prog) W 78 5 i0 (.int .u8 0) Try.underlying78 hi hz0 .i64 .i64 (n : Int) (n : Int) (by omega) (by omega) (by rw [hz2]; omega) (by omega)
    rw [hz1, Nat.mul_one, Int.toNat_natCast, made_zeros] at h
    exact h
  clear hh hi hz0 hz1 hz2
  go_enter Try.func80, Try.ntmps80
  go_wp2_with fail
  clear hmk
  go_loopw [5, 6] (fun v5 v6 wr => ∃ (k : Nat) (cs : List (List UInt8)) (suf : List UInt8) (P : Option Addr), v5 = .int .i64 k ∧ v6 = .pointer P ∧ k ≤ n ∧ Chain w g 141 5 P cs ∧
      Hid (wr.heap[w.heap.size]? = some (.cells (bcells (List.replicate k 0 ++ suf)).toArray 5 (0, 0))) ∧ Hid (k = (Wt.flat (cs, false)).length) ∧ Hid (Wt.flat (cs, false) ++ suf = L) ∧ Below w.heap.size w wr)
    (fun v5 _ _ => (intOf v5).toNat)
  case atStart => exact ⟨n, st.1, [], P, rfl, rfl, Nat.le_refl _, hc, by rw [List.append_nil]; exact Lib.hid (Has.made w 5 (bcells (List.replicate n 0)).toArray), Lib.hid (by rw [← HZ.out, HN.out]), Lib.hid (by rw [← HZ.out]; simp), (Below.refl _ _).alloc (Nat.le_refl _) _⟩
  case round =>
    obtain ⟨k, cs, suf, P, rfl, rfl, hkn, hck, HH, HK, HL, hbk⟩ := hrel
    cases cs with
    | nil =>
      have hP : P = none := hck
      subst hP
      have hk0 : k = 0 := by rw [HK.out]; rfl
      subst hk0
      have hsuf : suf = L := by have := HL.out; simpa [Wt.flat] using this
      subst hsuf
      have hcv : ∀ W : World, W.heap[w.heap.size]? = some (.cells (bcells (List.replicate 0 0 ++ suf)).toArray 5 (0, 0)) → (convert 78 9 (.slice (some ⟨w.heap.size, 0, none⟩) n n)).run Try.prog W = .ok (.string (S suf)) W := fun W hW =>
        conv_text Try.underlying78 Try.underlying5 Try.underlying9 suf HN.out (fun i hi => by rw [Has.cell hW]; simp)
      have hcv1 := hcv wr HH.out
      clear hcv
      go_wp2_with fail
      go_ret2
      exact ⟨rfl, hbk⟩
    | cons c cs =>
      obtain ⟨q, prev, A, cap, bq, rfl, hqg, hbg, hh, hy, hcn, _, hcr⟩ := hck
      have hq0 : wr.cell? ⟨q, 0, none⟩ = some (.pointer prev) := (hh.below hbk hh.lt).cell 0
      have hq1 : wr.cell? ⟨q, 1, none⟩ = some (.slice A c.length cap) := (hh.below hbk hh.lt).cell 1
      obtain ⟨off, hA, hcells⟩ := hy hcn
      subst hA
      have hkc : k = (Wt.flat (cs, false)).length + c.length := by rw [HK.out]; simp [Wt.flat]
      obtain ⟨j, hj⟩ : ∃ j, (Wt.flat (cs, false)).length = j := ⟨_, rfl⟩
      rw [hj] at hkc
      have HJ := Lib.hid hj; clear hj
      have hcl : 0 < c.length := List.length_pos_iff.2 hcn
      have hbqlt := hy.lt hcn
      have HCELLS := Lib.hid hcells; clear hcells
      obtain ⟨m, hm⟩ : ∃ m, c.length = m := ⟨_, rfl⟩
      rw [hm] at hkc hcl hq1
      have hsub : IntKind.i64.wrap ((k : Int) - (m : Int)) = (j : Int) := by rw [IntKind.wrap_i64]; omega
      have hsub2 : (k : Int) - (m : Int) = (j : Int) := by omega
      have hj0 : (0 : Int) ≤ (j : Int) := by omega
      have hjn : (j : Int) ≤ (n : Int) := by omega
      have hjn2 : ¬ n = j := by omega
      have HM := Lib.hid hm; clear hm
      have HKC := Lib.hid hkc; clear hkc
      have HQ := Lib.hid hh
      clear hcn hh hy
      go_wp2_with fail
      have hnc : (bcells c).length = Nat.min m (n - j) := by
        rw [show (bcells c).length = c.length by simp [bcells], HM.out]
        exact (Nat.min_eq_left (by have := HKC.out; omega)).symm
      have hsrc : ∀ (W : World), Below w.heap.size w W → ∀ i v, (bcells c)[i]? = some v → W.cell? ((⟨bq, off, none⟩ : Addr).add i) = some v := by
        intro W hW i v hv
        have hil : i < c.length := by
          have := (List.getElem?_eq_some_iff.1 hv).1
          simpa [bcells] using this
        rw [show (⟨bq, off, none⟩ : Addr).add i = ⟨bq, off + i, none⟩ by unfold Addr.add; split <;> simp_all]
        rw [hW.cell (p := ⟨bq, off + i, none⟩) hbqlt, HCELLS.out i hil, hv]
      have hfit : j + (bcells c).length ≤ (bcells (List.replicate k 0 ++ suf)).length := by
        have := HKC.out; have := HM.out; simp [bcells]; omega
      have HNC := Lib.hid hnc; clear hnc
      have HSRC := Lib.hid hsrc; clear hsrc
      have HFIT := Lib.hid hfit; clear hfit
      go_region_law (refine step_copy_splice rfl (.tmp 43) (.tmp 47) 78 78 rfl 5 Try.underlying78 u8size (some ⟨w.heap.size, j, none⟩) (some ⟨bq, off, none⟩) (n - j) (n - j) m cap (by simp [Act.eval]) (by simp [Act.eval]) w.heap.size j (bcells (List.replicate k 0 ++ suf)) 5 HH.out (bcells c) HNC.out (fun _ => ⟨rfl, _, rfl, HSRC.out _ hbk.drew⟩) HFIT.out (bcells_one c) w.heap.size w hbk.drew (Nat.le_refl _) ?_; intro w2 HG2 hB2)
      all_goals
        have hq02 : w2.cell? ⟨q, 0, none⟩ = some (.pointer prev) := (HQ.out.below hB2 HQ.out.lt).cell 0
        go_wp2_with fail
        go_roundw
        case rel =>
          refine ⟨j, cs, c ++ suf, prev, rfl, rfl, by omega, hcr, Lib.hid ?_, Lib.hid HJ.out.symm, Lib.hid ?_, hB2⟩
          · have h := HG2.out
            rw [HKC.out, ← HM.out, splice_zeros] at h
            exact h
          · rw [← HL.out]
            simp [Wt.flat]
        case measure => have := HKC.out; simp [intOf]; omega
end Go.Proofs.Ytojemaaljjibiaa

namespace Go.Proofs.Ytojemaaljjibiaa
open Go.RowKit
set_option linter.unusedVariables false

set_option maxRecDepth 100000 in
set_option maxHeartbeats 16000000 in
theorem bytesV_any {w : World} {v : Evt} {A B : Option Addr} {ca cb : Nat} (hin : EntIn w [] v.ent A ca B cb) (hf : EvtFew v) :
    Calls Try.prog 66 #[v.val A ca B cb] w fun r w' => r = .returned (.string (S (Ev.bytes v))) ∧ Below w.heap.size w w' := by
  have hR := fun (W : World) (hb : Below w.heap.size w W) => rightV_any (v := v) (EntIn.at hin hb (s := []) (fun x hx => by cases hx)) hf
  have hE := fun (W : World) (g : Nat) (st : Wt.St) (hb : Below w.heap.size w W) (hg : w.heap.size ≤ g) (h : Wr W g st) (hx : Ev.entR v.ent = true) (hc : (Wt.flat st).length ≤ 100000) => wentry_any v.ent A B ca cb g st W h (EntIn.at hin hb (s := [g]) (fun x hx => by rw [List.mem_singleton.1 hx]; exact hg)) hx hc
  unfold Evt.val at *
  have hh := Has.made w 37 #[.int .i64 v.kind, .string (S v.ent.id), .int .i64 v.ent.cls, .int .i64 v.ent.born, .int .i64 v.ent.slot, .slice A v.ent.L.length ca, .bool v.ent.gone, .slice B v.ent.H.length cb, .int .i64 v.seq, .int .i64 v.idx, .string (S v.name), .int .i64 v.size, .string (S v.root), .int .i64 v.now]
  have HB : Hid (Below w.heap.size w (w.alloc (.cells #[.int .i64 v.kind, .string (S v.ent.id), .int .i64 v.ent.cls, .int .i64 v.ent.born, .int .i64 v.ent.slot, .slice A v.ent.L.length ca, .bool v.ent.gone, .slice B v.ent.H.length cb, .int .i64 v.seq, .int .i64 v.idx, .string (S v.name), .int .i64 v.size, .string (S v.root), .int .i64 v.now] 37))) := Lib.hid ((Below.refl _ w).alloc (Nat.le_refl _) _)
  have hsz : w.heap.size < (w.alloc (.cells #[.int .i64 v.kind, .string (S v.ent.id), .int .i64 v.ent.cls, .int .i64 v.ent.born, .int .i64 v.ent.slot, .slice A v.ent.L.length ca, .bool v.ent.gone, .slice B v.ent.H.length cb, .int .i64 v.seq, .int .i64 v.idx, .string (S v.name), .int .i64 v.size, .string (S v.root), .int .i64 v.now] 37)).heap.size := by rw [asize]; omega
  have HR := Lib.hid hR
  have HE := Lib.hid hE
  have k1 := Lib.hid (fun h => Ev.right1 (v := v) h)
  have k2 := Lib.hid (fun h => Ev.right2 (v := v) h)
  have k3 := Lib.hid (fun h => Ev.right3 (v := v) h)
  have k4 := Lib.hid (fun h => Ev.right4 (v := v) h)
  have k6 := Lib.hid (fun h => Ev.right6 (v := v) h)
  have k7 := Lib.hid (fun h => Ev.right7 (v := v) h)
  have hkinds := Ev.kinds v
  have hk0 : Ev.right v = true → 1 ≤ v.kind ∧ v.kind ≤ 7 := fun h => Ev.right_kind h
  have n1 := Lib.hid (fun h => Ev.enc1 (v := v) h)
  have n2 := Lib.hid (fun h => Ev.enc2 (v := v) h)
  have n3 := Lib.hid (fun h => Ev.enc3 (v := v) h)
  have n4 := Lib.hid (fun h => Ev.enc4 (v := v) h)
  have n6 := Lib.hid (fun h => Ev.enc6 (v := v) h)
  have n7 := Lib.hid (fun h => Ev.enc7 (v := v) h)
  have HBY : Hid (Ev.bytes v = if Ev.right v = true then Ev.enc v else []) := Lib.hid rfl
  have hEL := fun h => Ev.enc_len (v := v) h
  clear hin hf hR hE
  obtain ⟨kind, ⟨id, cls, born, slot, L, gone, H⟩, seq, idx, name, size, root, now⟩ := v
  dsimp only at *
  generalize Ev.bytes ⟨kind, ⟨id, cls, born, slot, L, gone, H⟩, seq, idx, name, size, root, now⟩ = RES at *
  generalize Ev.right ⟨kind, ⟨id, cls, born, slot, L, gone, H⟩, seq, idx, name, size, root, now⟩ = RR at *
  generalize Ev.enc ⟨kind, ⟨id, cls, born, slot, L, gone, H⟩, seq, idx, name, size, root, now⟩ = EE at *
  generalize Ev.entR ⟨id, cls, born, slot, L, gone, H⟩ = ER at *
  generalize Ev.encE ⟨id, cls, born, slot, L, gone, H⟩ = pE at *
  go_enter Try.func66, Try.ntmps66
  go_upto_region 1 with fail
  generalize w.alloc (.cells #[.int .i64 kind, .string (S id), .int .i64 cls, .int .i64 born, .int .i64 slot, .slice A L.length ca, .bool gone, .slice B H.length cb, .int .i64 seq, .int .i64 idx, .string (S name), .int .i64 size, .string (S root), .int .i64 now] 37) = W0 at HB hh hsz ⊢
  obtain ⟨b0, hb0⟩ : ∃ b0, w.heap.size = b0 := ⟨_, rfl⟩
  rw [hb0] at hh hsz ⊢
  have HH := Lib.hid hh
  have HB0 := Lib.hid hb0
  have y0 : W0.cell? ⟨b0, 0, none⟩ = some (.int .i64 kind) := hh.cell 0
  have y1 : W0.cell? ⟨b0, 1, none⟩ = some (.string (S id)) := hh.cell 1
  have y2 : W0.cell? ⟨b0, 2, none⟩ = some (.int .i64 cls) := hh.cell 2
  have y3 : W0.cell? ⟨b0, 3, none⟩ = some (.int .i64 born) := hh.cell 3
  have y4 : W0.cell? ⟨b0, 4, none⟩ = some (.int .i64 slot) := hh.cell 4
  have y5 : W0.cell? ⟨b0, 5, none⟩ = some (.slice A L.length ca) := hh.cell 5
  have y6 : W0.cell? ⟨b0, 6, none⟩ = some (.bool gone) := hh.cell 6
  have y7 : W0.cell? ⟨b0, 7, none⟩ = some (.slice B H.length cb) := hh.cell 7
  have y8 : W0.cell? ⟨b0, 8, none⟩ = some (.int .i64 seq) := hh.cell 8
  have y9 : W0.cell? ⟨b0, 9, none⟩ = some (.int .i64 idx) := hh.cell 9
  have y10 : W0.cell? ⟨b0, 10, none⟩ = some (.string (S name)) := hh.cell 10
  have y11 : W0.cell? ⟨b0, 11, none⟩ = some (.int .i64 size) := hh.cell 11
  have y12 : W0.cell? ⟨b0, 12, none⟩ = some (.string (S root)) := hh.cell 12
  have y13 : W0.cell? ⟨b0, 13, none⟩ = some (.int .i64 now) := hh.cell 13
  clear hh
  go_wp2_with fail
  refine (HR.out _ HB.out).mono ?_
  rintro r w1 ⟨rfl, hb1⟩
  have HH1 := Lib.hid (HH.out.below hb1 hsz)
  have HB1 := Lib.hid (HB.out.trans (hb1.mono HB.out.size))
  have hsz1 : b0 < w1.heap.size := Nat.lt_of_lt_of_le hsz hb1.size
  clear hb1 y0 y1 y2 y3 y4 y5 y6 y7 y8 y9 y10 y11 y12 y13 HH HR HB hsz
  cases RR with
  | false =>
    obtain rfl : RES = [] := HBY.out
    go_wp2_with fail
    go_ret
    exact ⟨rfl, HB1.out⟩
  | true =>
    obtain rfl : RES = EE := HBY.out
    have hk := hk0 rfl
    have hel := hEL rfl
    go_upto_region 4 with fail
    have hwr : Wr (w1.alloc (.cells #[.pointer none, .int .i64 0, .bool false] 111)) w1.heap.size ([], false) := ⟨none, Has.made _ _ _, rfl⟩
    have hbw := (Below.refl _ w1).alloc (Nat.le_refl _) (.cells #[.pointer none, .int .i64 0, .bool false] 111)
    have HB2 := Lib.hid (HB1.out.trans (hbw.mono HB1.out.size))
    have HH2 := Lib.hid (HH1.out.below hbw hsz1)
    have hg : w.heap.size ≤ w1.heap.size := HB1.out.size
    have hsz2 : w1.heap.size < (w1.alloc (.cells #[.pointer none, .int .i64 0, .bool false] 111)).heap.size := by rw [asize]; omega
    clear hbw HB1 HH1
    generalize w1.alloc (.cells #[.pointer none, .int .i64 0, .bool false] 111) = W2 at *
    generalize w1.heap.size = g at *
    have hne : b0 ≠ g := by omega
    have HG := Lib.hid hg
    have HK := Lib.hid (wnum_p kind g ([], false) W2 hwr (by omega) (by omega) (by decide))
    have hpk : (M.encL kind).length ≤ 8 := Ev.encL_len (by omega)
    generalize M.encL kind = pk at *
    clear hwr hg hk0 hEL hsz1
    have y0 : W2.cell? ⟨b0, 0, none⟩ = some (.int .i64 kind) := HH2.out.cell 0
    go_wp2_with fail
    refine HK.out.mono ?_
    rintro r w3 ⟨rfl, st, hw3, f, nn, b, o⟩
    have HH3 := Lib.hid (o.has HH2.out hne)
    have HB3 := Lib.hid (o.below HB2.out (Nat.le_trans HG.out (Nat.le_of_lt hsz2)) HG.out)
    have hsz3 : g < w3.heap.size := Nat.lt_of_lt_of_le hsz2 o.size
    have F3 : Hid (Wt.flat st = pk ∧ st.2 = false) := Lib.hid ⟨by rw [f]; rfl, b⟩
    have hn3 : (Wt.flat st).length ≤ 8 := by rw [F3.out.1]; exact hpk
    clear f nn b o HK HH2 HB2 hsz2 y0 hpk
    have y0 : w3.cell? ⟨b0, 0, none⟩ = some (.int .i64 kind) := HH3.out.cell 0
    clear y0
    rcases hkinds with h | h | h | h | h | h | h
    · subst h
      have HER := Lib.hid (k1.out rfl).symm
      have HEN := Lib.hid (n1.out rfl)
      clear k1 k2 k3 k4 k6 k7 n1 n2 n3 n4 n6 n7
      have y0 : w3.cell? ⟨b0, 0, none⟩ = some (.int .i64 1) := HH3.out.cell 0
      have c1 : w3.cell? ⟨b0, 1, none⟩ = some (.string (S id)) := HH3.out.cell 1
      have c2 : w3.cell? ⟨b0, 2, none⟩ = some (.int .i64 cls) := HH3.out.cell 2
      have c3 : w3.cell? ⟨b0, 3, none⟩ = some (.int .i64 born) := HH3.out.cell 3
      have c4 : w3.cell? ⟨b0, 4, none⟩ = some (.int .i64 slot) := HH3.out.cell 4
      have c5 : w3.cell? ⟨b0, 5, none⟩ = some (.slice A L.length ca) := HH3.out.cell 5
      have c6 : w3.cell? ⟨b0, 6, none⟩ = some (.bool gone) := HH3.out.cell 6
      have c7 : w3.cell? ⟨b0, 7, none⟩ = some (.slice B H.length cb) := HH3.out.cell 7
      go_wp2_with fail
      refine (HE.out _ _ _ HB3.out HG.out hw3 HER.out (by omega)).mono ?_
      rintro r w4 ⟨rfl, st4, hw4, f, nn, b, o⟩
      have HB4 := Lib.hid (o.below HB3.out (Nat.le_trans HG.out (Nat.le_of_lt hsz3)) HG.out)
      have F4 : Hid (Wt.flat st4 = pk ++ pE ∧ st4.2 = false) := Lib.hid ⟨by rw [f, F3.out.1], by rw [b, F3.out.2]⟩
      clear f b o y0 c1 c2 c3 c4 c5 c6 c7 HH3 HB3 hsz3
      have hEE : Wt.flat st4 = RES := by rw [F4.out.1, HEN.out]
      have HA := Lib.hid (all_good g st4 w4 hw4 F4.out.2 (by rw [hEE]; omega))
      rw [hEE] at HA
      clear hEE
      go_wp2_with fail
      refine HA.out.mono ?_
      rintro r w9 ⟨rfl, hb9⟩
      go_wp2_with fail
      go_ret
      exact ⟨rfl, HB4.out.trans (hb9.mono HB4.out.size)⟩
    · subst h
      have hr := (k2.out rfl).symm
      have HEN := Lib.hid (n2.out rfl)
      rw [Bool.and_eq_true, Ev.rng_iff, Ev.rng_iff] at hr
      obtain ⟨⟨r1, r2⟩, r3, r4⟩ := hr
      have l1 : (M.encL seq).length ≤ 8 := Ev.encL_len (by omega)
      have HS := Lib.hid (fun W st (hW : Wr W g st) (hc : (Wt.flat st).length ≤ 1000000000) => wnum_p seq g st W hW r1 (by omega) hc)
      have HX := Lib.hid (fun W st (hW : Wr W g st) (hc : (Wt.flat st).length ≤ 1000000000) => wnum_p idx g st W hW r3 (by omega) hc)
      clear r1 r2 r3 r4
      generalize M.encL seq = ps at *
      generalize M.encL idx = pi at *
      clear k1 k2 k3 k4 k6 k7 n1 n2 n3 n4 n6 n7 HE
      have y0 : w3.cell? ⟨b0, 0, none⟩ = some (.int .i64 2) := HH3.out.cell 0
      have y : w3.cell? ⟨b0, 8, none⟩ = some (.int .i64 seq) := HH3.out.cell 8
      go_wp2_with fail
      refine (HS.out _ _ hw3 (by omega)).mono ?_
      rintro r w4 ⟨rfl, st4, hw4, f, nn, b, o⟩
      have HH4 := Lib.hid (o.has HH3.out hne)
      have HB4 := Lib.hid (o.below HB3.out (Nat.le_trans HG.out (Nat.le_of_lt hsz3)) HG.out)
      have hsz4 : g < w4.heap.size := Nat.lt_of_lt_of_le hsz3 o.size
      have F4 : Hid (Wt.flat st4 = pk ++ ps ∧ st4.2 = false) := Lib.hid ⟨by rw [f, F3.out.1], by rw [b, F3.out.2]⟩
      clear f b o y HH3 HB3 hsz3
      clear y0
      have y : w4.cell? ⟨b0, 9, none⟩ = some (.int .i64 idx) := HH4.out.cell 9
      go_wp2_with fail
      refine (HX.out _ _ hw4 (by omega)).mono ?_
      rintro r w5 ⟨rfl, st5, hw5, f, nn, b, o⟩
      have HH5 := Lib.hid (o.has HH4.out hne)
      have HB5 := Lib.hid (o.below HB4.out (Nat.le_trans HG.out (Nat.le_of_lt hsz4)) HG.out)
      have hsz5 : g < w5.heap.size := Nat.lt_of_lt_of_le hsz4 o.size
      have F5 : Hid (Wt.flat st5 = pk ++ ps ++ pi ∧ st5.2 = false) := Lib.hid ⟨by rw [f, F4.out.1], by rw [b, F4.out.2]⟩
      clear f b o y HH4 HB4 hsz4
      rw [← List.append_assoc] at HEN
      have hEE : Wt.flat st5 = RES := by rw [F5.out.1, HEN.out]
      have HA := Lib.hid (all_good g st5 w5 hw5 F5.out.2 (by rw [hEE]; omega))
      rw [hEE] at HA
      clear hEE
      go_wp2_with fail
      refine HA.out.mono ?_
      rintro r w9 ⟨rfl, hb9⟩
      go_wp2_with fail
      go_ret
      exact ⟨rfl, HB5.out.trans (hb9.mono HB5.out.size)⟩
    · subst h
      have hr := (k3.out rfl).symm
      have HEN := Lib.hid (n3.out rfl)
      rw [Ev.rng_iff] at hr
      have l1 : (M.encL seq).length ≤ 8 := Ev.encL_len (by omega)
      have HS := Lib.hid (fun W st (hW : Wr W g st) (hc : (Wt.flat st).length ≤ 1000000000) => wnum_p seq g st W hW hr.1 (by omega) hc)
      clear hr
      generalize M.encL seq = ps at *
      clear k1 k2 k3 k4 k6 k7 n1 n2 n3 n4 n6 n7 HE
      have y0 : w3.cell? ⟨b0, 0, none⟩ = some (.int .i64 3) := HH3.out.cell 0
      have y : w3.cell? ⟨b0, 8, none⟩ = some (.int .i64 seq) := HH3.out.cell 8
      go_wp2_with fail
      refine (HS.out _ _ hw3 (by omega)).mono ?_
      rintro r w4 ⟨rfl, st4, hw4, f, nn, b, o⟩
      have HH4 := Lib.hid (o.has HH3.out hne)
      have HB4 := Lib.hid (o.below HB3.out (Nat.le_trans HG.out (Nat.le_of_lt hsz3)) HG.out)
      have hsz4 : g < w4.heap.size := Nat.lt_of_lt_of_le hsz3 o.size
      have F4 : Hid (Wt.flat st4 = pk ++ ps ∧ st4.2 = false) := Lib.hid ⟨by rw [f, F3.out.1], by rw [b, F3.out.2]⟩
      clear f b o y HH3 HB3 hsz3
      clear y0
      have hEE : Wt.flat st4 = RES := by rw [F4.out.1, HEN.out]
      have HA := Lib.hid (all_good g st4 w4 hw4 F4.out.2 (by rw [hEE]; omega))
      rw [hEE] at HA
      clear hEE
      go_wp2_with fail
      refine HA.out.mono ?_
      rintro r w9 ⟨rfl, hb9⟩
      go_wp2_with fail
      go_ret
      exact ⟨rfl, HB4.out.trans (hb9.mono HB4.out.size)⟩
    · have hr := (k4.out h).symm
      have HEN := Lib.hid (n4.out h)
      rw [Bool.and_eq_true, Ev.rng_iff] at hr
      obtain ⟨⟨r1, r2⟩, r3⟩ := hr
      have l1 : (M.encL seq).length ≤ 8 := Ev.encL_len (by omega)
      have HS := Lib.hid (fun W st (hW : Wr W g st) (hc : (Wt.flat st).length ≤ 1000000000) => wnum_p seq g st W hW r1 (by omega) hc)
      have HX := Lib.hid (fun W st (hW : Wr W g st) (hc : (Wt.flat st).length ≤ 1000000000) => wtext_p name g st W hW (by have := (Pap.word_len r3).2; omega) hc)
      clear r1 r2 r3
      generalize M.encL seq = ps at *
      generalize Ev.txt name = pi at *
      clear k1 k2 k3 k4 k6 k7 n1 n2 n3 n4 n6 n7 HE
      rw [← List.append_assoc] at HEN
      rcases h with rfl | rfl
      · have y0 : w3.cell? ⟨b0, 0, none⟩ = some (.int .i64 4) := HH3.out.cell 0
        have y : w3.cell? ⟨b0, 8, none⟩ = some (.int .i64 seq) := HH3.out.cell 8
        go_wp2_with fail
        refine (HS.out _ _ hw3 (by omega)).mono ?_
        rintro r w4 ⟨rfl, st4, hw4, f, nn, b, o⟩
        have HH4 := Lib.hid (o.has HH3.out hne)
        have HB4 := Lib.hid (o.below HB3.out (Nat.le_trans HG.out (Nat.le_of_lt hsz3)) HG.out)
        have hsz4 : g < w4.heap.size := Nat.lt_of_lt_of_le hsz3 o.size
        have F4 : Hid (Wt.flat st4 = pk ++ ps ∧ st4.2 = false) := Lib.hid ⟨by rw [f, F3.out.1], by rw [b, F3.out.2]⟩
        clear f b o y HH3 HB3 hsz3
        clear y0
        have y : w4.cell? ⟨b0, 10, none⟩ = some (.string (S name)) := HH4.out.cell 10
        go_wp2_with fail
        refine (HX.out _ _ hw4 (by omega)).mono ?_
        rintro r w5 ⟨rfl, st5, hw5, f, nn, b, o⟩
        have HH5 := Lib.hid (o.has HH4.out hne)
        have HB5 := Lib.hid (o.below HB4.out (Nat.le_trans HG.out (Nat.le_of_lt hsz4)) HG.out)
        have hsz5 : g < w5.heap.size := Nat.lt_of_lt_of_le hsz4 o.size
        have F5 : Hid (Wt.flat st5 = pk ++ ps ++ pi ∧ st5.2 = false) := Lib.hid ⟨by rw [f, F4.out.1], by rw [b, F4.out.2]⟩
        clear f b o y HH4 HB4 hsz4
        have hEE : Wt.flat st5 = RES := by rw [F5.out.1, HEN.out]
        have HA := Lib.hid (all_good g st5 w5 hw5 F5.out.2 (by rw [hEE]; omega))
        rw [hEE] at HA
        clear hEE
        go_wp2_with fail
        refine HA.out.mono ?_
        rintro r w9 ⟨rfl, hb9⟩
        go_wp2_with fail
        go_ret
        exact ⟨rfl, HB5.out.trans (hb9.mono HB5.out.size)⟩
      · have y0 : w3.cell? ⟨b0, 0, none⟩ = some (.int .i64 5) := HH3.out.cell 0
        have y : w3.cell? ⟨b0, 8, none⟩ = some (.int .i64 seq) := HH3.out.cell 8
        go_wp2_with fail
        refine (HS.out _ _ hw3 (by omega)).mono ?_
        rintro r w4 ⟨rfl, st4, hw4, f, nn, b, o⟩
        have HH4 := Lib.hid (o.has HH3.out hne)
        have HB4 := Lib.hid (o.below HB3.out (Nat.le_trans HG.out (Nat.le_of_lt hsz3)) HG.out)
        have hsz4 : g < w4.heap.size := Nat.lt_of_lt_of_le hsz3 o.size
        have F4 : Hid (Wt.flat st4 = pk ++ ps ∧ st4.2 = false) := Lib.hid ⟨by rw [f, F3.out.1], by rw [b, F3.out.2]⟩
        clear f b o y HH3 HB3 hsz3
        clear y0
        have y : w4.cell? ⟨b0, 10, none⟩ = some (.string (S name)) := HH4.out.cell 10
        go_wp2_with fail
        refine (HX.out _ _ hw4 (by omega)).mono ?_
        rintro r w5 ⟨rfl, st5, hw5, f, nn, b, o⟩
        have HH5 := Lib.hid (o.has HH4.out hne)
        have HB5 := Lib.hid (o.below HB4.out (Nat.le_trans HG.out (Nat.le_of_lt hsz4)) HG.out)
        have hsz5 : g < w5.heap.size := Nat.lt_of_lt_of_le hsz4 o.size
        have F5 : Hid (Wt.flat st5 = pk ++ ps ++ pi ∧ st5.2 = false) := Lib.hid ⟨by rw [f, F4.out.1], by rw [b, F4.out.2]⟩
        clear f b o y HH4 HB4 hsz4
        have hEE : Wt.flat st5 = RES := by rw [F5.out.1, HEN.out]
        have HA := Lib.hid (all_good g st5 w5 hw5 F5.out.2 (by rw [hEE]; omega))
        rw [hEE] at HA
        clear hEE
        go_wp2_with fail
        refine HA.out.mono ?_
        rintro r w9 ⟨rfl, hb9⟩
        go_wp2_with fail
        go_ret
        exact ⟨rfl, HB5.out.trans (hb9.mono HB5.out.size)⟩
    · subst h
      have hr := (k6.out rfl).symm
      have HEN := Lib.hid (n6.out rfl)
      rw [Bool.and_eq_true, Ev.rng_iff, decide_eq_true_iff] at hr
      obtain ⟨⟨r1, r2⟩, r3⟩ := hr
      have l1 : (M.encL size).length ≤ 8 := Ev.encL_len (by omega)
      have HS := Lib.hid (fun W st (hW : Wr W g st) (hc : (Wt.flat st).length ≤ 1000000000) => wnum_p size g st W hW r1 (by omega) hc)
      have HX := Lib.hid (fun W st (hW : Wr W g st) (hc : (Wt.flat st).length ≤ 1000000000) => wtext_p root g st W hW (by omega) hc)
      clear r1 r2 r3
      generalize M.encL size = ps at *
      generalize Ev.txt root = pi at *
      clear k1 k2 k3 k4 k6 k7 n1 n2 n3 n4 n6 n7 HE
      have y0 : w3.cell? ⟨b0, 0, none⟩ = some (.int .i64 6) := HH3.out.cell 0
      have y : w3.cell? ⟨b0, 11, none⟩ = some (.int .i64 size) := HH3.out.cell 11
      go_wp2_with fail
      refine (HS.out _ _ hw3 (by omega)).mono ?_
      rintro r w4 ⟨rfl, st4, hw4, f, nn, b, o⟩
      have HH4 := Lib.hid (o.has HH3.out hne)
      have HB4 := Lib.hid (o.below HB3.out (Nat.le_trans HG.out (Nat.le_of_lt hsz3)) HG.out)
      have hsz4 : g < w4.heap.size := Nat.lt_of_lt_of_le hsz3 o.size
      have F4 : Hid (Wt.flat st4 = pk ++ ps ∧ st4.2 = false) := Lib.hid ⟨by rw [f, F3.out.1], by rw [b, F3.out.2]⟩
      clear f b o y HH3 HB3 hsz3
      clear y0
      have y : w4.cell? ⟨b0, 12, none⟩ = some (.string (S root)) := HH4.out.cell 12
      go_wp2_with fail
      refine (HX.out _ _ hw4 (by omega)).mono ?_
      rintro r w5 ⟨rfl, st5, hw5, f, nn, b, o⟩
      have HH5 := Lib.hid (o.has HH4.out hne)
      have HB5 := Lib.hid (o.below HB4.out (Nat.le_trans HG.out (Nat.le_of_lt hsz4)) HG.out)
      have hsz5 : g < w5.heap.size := Nat.lt_of_lt_of_le hsz4 o.size
      have F5 : Hid (Wt.flat st5 = pk ++ ps ++ pi ∧ st5.2 = false) := Lib.hid ⟨by rw [f, F4.out.1], by rw [b, F4.out.2]⟩
      clear f b o y HH4 HB4 hsz4
      rw [← List.append_assoc] at HEN
      have hEE : Wt.flat st5 = RES := by rw [F5.out.1, HEN.out]
      have HA := Lib.hid (all_good g st5 w5 hw5 F5.out.2 (by rw [hEE]; omega))
      rw [hEE] at HA
      clear hEE
      go_wp2_with fail
      refine HA.out.mono ?_
      rintro r w9 ⟨rfl, hb9⟩
      go_wp2_with fail
      go_ret
      exact ⟨rfl, HB5.out.trans (hb9.mono HB5.out.size)⟩
    · subst h
      have hr := (k7.out rfl).symm
      have HEN := Lib.hid (n7.out rfl)
      rw [Ev.rng_iff] at hr
      have HS := Lib.hid (fun W st (hW : Wr W g st) (hc : (Wt.flat st).length ≤ 1000000000) => wnum_p now g st W hW hr.1 (by omega) hc)
      clear hr
      generalize M.encL now = ps at *
      clear k1 k2 k3 k4 k6 k7 n1 n2 n3 n4 n6 n7 HE
      have y0 : w3.cell? ⟨b0, 0, none⟩ = some (.int .i64 7) := HH3.out.cell 0
      have y : w3.cell? ⟨b0, 13, none⟩ = some (.int .i64 now) := HH3.out.cell 13
      go_wp2_with fail
      refine (HS.out _ _ hw3 (by omega)).mono ?_
      rintro r w4 ⟨rfl, st4, hw4, f, nn, b, o⟩
      have HH4 := Lib.hid (o.has HH3.out hne)
      have HB4 := Lib.hid (o.below HB3.out (Nat.le_trans HG.out (Nat.le_of_lt hsz3)) HG.out)
      have hsz4 : g < w4.heap.size := Nat.lt_of_lt_of_le hsz3 o.size
      have F4 : Hid (Wt.flat st4 = pk ++ ps ∧ st4.2 = false) := Lib.hid ⟨by rw [f, F3.out.1], by rw [b, F3.out.2]⟩
      clear f b o y HH3 HB3 hsz3
      clear y0
      have hEE : Wt.flat st4 = RES := by rw [F4.out.1, HEN.out]
      have HA := Lib.hid (all_good g st4 w4 hw4 F4.out.2 (by rw [hEE]; omega))
      rw [hEE] at HA
      clear hEE
      go_wp2_with fail
      refine HA.out.mono ?_
      rintro r w9 ⟨rfl, hb9⟩
      go_wp2_with fail
      go_ret
      exact ⟨rfl, HB4.out.trans (hb9.mono HB4.out.size)⟩
    · exact absurd hk (by omega)
end Go.Proofs.Ytojemaaljjibiaa
