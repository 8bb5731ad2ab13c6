/-
  WriteOne: the texts WriteSpec, Write, WriteAll in one.
-/
import Derived.Test.YtdgfohffmbnjiaaGreatDoorMemOne
import Derived.Test.YtdgfohffmbnjiaaGreatDoorMath
import Derived.Test.YtdgfohffmbnjiaaGreatDoorNum
import Derived.Laws.CopyOwn
import Derived.Laws.MakeOwn
import Derived.Deep.RegionLaw
import Derived.Deep.DeepFit
namespace Go.Proofs.YtdgfohffmbnjiaaGreatDoor
open Go.RowKit
set_option linter.unusedVariables false

namespace Wt
/-- The pieces, the newest first; is it spoiled? -/
abbrev St := List (List UInt8) × Bool
def flat (st : St) : List UInt8 := st.1.reverse.flatten
def raw (s : List UInt8) (st : St) : St := if s = [] then st else (s :: st.1, st.2)
def num (n : Int) (st : St) : St := raw (M.encL n) (if M.encL n = [] then (st.1, true) else st)
def text (s : List UInt8) (st : St) : St := raw s (num s.length st)
def flag (b : Bool) (st : St) : St := raw [if b then 1 else 0] st
def texts (l : List (List UInt8)) (st : St) : St := l.foldl (fun st s => text s st) (num l.length st)

theorem flat_raw (s : List UInt8) (st : St) : flat (raw s st) = flat st ++ s := by
  unfold raw
  split
  · rename_i h; simp [h]
  · simp [flat]
theorem flat_num (n : Int) (st : St) : flat (num n st) = flat st ++ M.encL n := by
  unfold num
  rw [flat_raw]
  split <;> rfl
theorem flat_text (s : List UInt8) (st : St) : flat (text s st) = flat st ++ (M.encL s.length ++ s) := by
  unfold text
  rw [flat_raw, flat_num, List.append_assoc]
theorem flat_flag (b : Bool) (st : St) : flat (flag b st) = flat st ++ [if b then 1 else 0] := flat_raw _ _
theorem flat_foldl : ∀ (l : List (List UInt8)) (st : St), flat (l.foldl (fun st s => text s st) st) = flat st ++ (l.map fun s => M.encL s.length ++ s).flatten := by
  intro l
  induction l with
  | nil => intro st; simp
  | cons s l ih => intro st; rw [List.foldl_cons, ih, flat_text]; simp
theorem flat_texts (l : List (List UInt8)) (st : St) : flat (texts l st) = flat st ++ (M.encL l.length ++ (l.map fun s => M.encL s.length ++ s).flatten) := by
  unfold texts
  rw [flat_foldl, flat_num, List.append_assoc]
theorem bad_raw (s : List UInt8) (st : St) : (raw s st).2 = st.2 := by unfold raw; split <;> rfl
theorem bad_num (n : Int) (st : St) : (num n st).2 = (st.2 || decide (M.encL n = [])) := by
  unfold num
  rw [bad_raw]
  split <;> simp_all
end Wt

/-- The pieces of the writer that lies in block g: their blocks are of type pt, those of their bytes of type bt. -/
def Chain (w : World) (g pt bt : Nat) : Option Addr → List (List UInt8) → Prop
  | P, [] => P = none
  | P, c :: cs => ∃ (q : Nat) (prev A : Option Addr) (cap bq : Nat), P = some ⟨q, 0, none⟩ ∧ q ≠ g ∧ bq ≠ g ∧ Has w q pt #[.pointer prev, .slice A c.length cap] ∧ Bytes w bq A c ∧ c ≠ [] ∧ (∃ bs fr, w.heap[bq]? = some (.cells bs bt fr)) ∧ Chain w g pt bt prev cs

theorem Chain.only {w w' : World} {g k pt bt : Nat} (ho : Only w w' k) : ∀ {P : Option Addr} {cs : List (List UInt8)}, Chain w g pt bt P cs → (k = g ∨ w.heap.size ≤ k) → Chain w' g pt bt P cs
  | P, [], h, _ => h
  | P, c :: cs, ⟨q, prev, A, cap, bq, hP, hq, hbq, hh, hy, hc, ⟨bs, fr, ht⟩, hr⟩, hk => by
    have h1 : q ≠ k := by rcases hk with rfl | hk; exact hq; have := hh.lt; omega
    have h2 : bq ≠ k := by rcases hk with rfl | hk; exact hbq; have := hy.lt hc; omega
    exact ⟨q, prev, A, cap, bq, hP, hq, hbq, ho.has hh h1, ho.bytes hy h2, hc, ⟨bs, fr, (ho.block bq (hy.lt hc) (fun e => h2 (by injection e))).trans ht⟩, Chain.only ho hr hk⟩
theorem Chain.below {w w' : World} {g pt bt B : Nat} (hb : Below B w w') (hB : w.heap.size ≤ B) {P : Option Addr} {cs : List (List UInt8)} (h : Chain w g pt bt P cs) : Chain w' g pt bt P cs :=
  Chain.only (k := w.heap.size + g) ⟨hb.os, hb.tape, hb.output, hb.size, fun i hi _ => hb.block i (by omega)⟩ h (Or.inr (by omega))
/-- A row of another type may grow. -/
theorem Chain.grown {w w' : World} {g pt bt e : Nat} {row : Option Nat} (hw : w.grownBy w' row) (hr : ∀ k, row = some k → ∃ bs fr, w.heap[k]? = some (.cells bs e fr)) (hp : e ≠ pt) (hb : e ≠ bt) : ∀ {P : Option Addr} {cs : List (List UInt8)}, Chain w g pt bt P cs → Chain w' g pt bt P cs
  | P, [], h => h
  | P, c :: cs, ⟨q, prev, A, cap, bq, hP, hq, hbq, hh, hy, hc, ⟨bs, fr, ht⟩, hrest⟩ => by
    have h1 : some q ≠ row := fun e' => by
      obtain ⟨bs', fr', h'⟩ := hr q e'.symm
      rw [Has] at hh
      rw [hh] at h'
      injection h' with h'; injection h' with _ h' _
      exact hp h'.symm
    have h2 : some bq ≠ row := fun e' => by
      obtain ⟨bs', fr', h'⟩ := hr bq e'.symm
      rw [ht] at h'
      injection h' with h'; injection h' with _ h' _
      exact hb h'.symm
    exact ⟨q, prev, A, cap, bq, hP, hq, hbq, (hw.block q hh.lt h1).trans hh, hy.keep (hw.block bq (hy.lt hc) h2), hc, ⟨bs, fr, (hw.block bq (hy.lt hc) h2).trans ht⟩, Chain.grown hw hr hp hb hrest⟩

/-- A row of texts, in one old block. -/
def SRow (w : World) (b off : Nat) (l : List (List UInt8)) : Prop := ∀ i (h : i < l.length), w.cell? ⟨b, off + i, none⟩ = some (.string (S l[i]))
theorem SRow.only {w w' : World} {b off g : Nat} {l : List (List UInt8)} (h : SRow w b off l) (ho : Only w w' g) (hne : b ≠ g) : SRow w' b off l := fun i hi =>
  (World.cell?_of_block (a := ⟨b, off + i, none⟩) (ho.block b (World.block_lt_of_cell? w ⟨b, off + i, none⟩ (h i hi)) (fun e => hne (by injection e)))).trans (h i hi)
end Go.Proofs.YtdgfohffmbnjiaaGreatDoor

namespace Go.Proofs.YtdgfohffmbnjiaaGreatDoor
open Go.RowKit
set_option linter.unusedVariables false

/-- A writer: block g is the struct; its pieces; whether it is spoiled. -/
def Wr (w : World) (g : Nat) (st : Wt.St) : Prop :=
  ∃ P : Option Addr, Has w g 100 #[.pointer P, .int .i64 (Wt.flat st).length, .bool st.2] ∧ Chain w g 123 5 P st.1
theorem Wr.lt {w : World} {g : Nat} {st : Wt.St} (h : Wr w g st) : g < w.heap.size := by
  obtain ⟨P, hh, _⟩ := h
  exact hh.lt
theorem Wr.below {w w' : World} {g B : Nat} {st : Wt.St} (h : Wr w g st) (hb : Below B w w') (hB : w.heap.size ≤ B) : Wr w' g st := by
  obtain ⟨P, hh, hc⟩ := h
  exact ⟨P, hh.below hb (by have := hh.lt; omega), hc.below hb hB⟩

set_option maxHeartbeats 1000000 in
theorem spoil_wr (g : Nat) (st : Wt.St) (w : World) (h : Wr w g st) :
    Calls Tryz.prog 67 #[.pointer (some ⟨g, 0, none⟩)] w fun r w' => r = .returned (.tuple #[]) ∧ Wr w' g (st.1, true) ∧ Only w w' g := by
  obtain ⟨P, hh, hc⟩ := h
  have h2 : w.cell? ⟨g, 2, none⟩ = some (.bool st.2) := hh.cell 2
  have hf := hh.free 2
  have hs := hh.set 2 (.bool true)
  have hcs := hc.only (Only.set w g 2 (.bool true)) (Or.inl rfl)
  have HS := Lib.hid hs; clear hs hh hc
  go_enter Tryz.func67, Tryz.ntmps67
  go_wp2_with fail
  go_returns
  exact ⟨rfl, ⟨P, HS.out, hcs⟩, Only.set _ _ _ _⟩

/-- The world behind a piece that was laid. -/
theorem raw_only (s : List UInt8) (g : Nat) (w : World) (P : Option Addr) (n : Int) :
    Only w ((((bworld w 5 s).setCell ⟨g, 0, none⟩ (.pointer (some ⟨w.heap.size + 1, 0, none⟩))).setCell ⟨g, 1, none⟩ (.int .i64 n)).alloc
      (.cells #[.pointer P, .slice (some ⟨w.heap.size, 0, none⟩) s.length (bcap w 5 s)] 123)) g :=
  ((((Only.of_below (bworld_below w _ s) g).trans (Only.set _ g 0 _)).trans (Only.set _ g 1 _)).trans (Only.of_below ((Below.refl _ _).alloc (Nat.le_refl _) _) g))
theorem raw_close (s : List UInt8) (g : Nat) (st : Wt.St) (w : World) (P : Option Addr) (hh : Has w g 100 #[.pointer P, .int .i64 (Wt.flat st).length, .bool st.2]) (hc : Chain w g 123 5 P st.1)
    (hfl : (Wt.flat (s :: st.1, st.2)).length = (Wt.flat st).length + s.length) (hs : ¬ s = []) :
    Wr ((((bworld w 5 s).setCell ⟨g, 0, none⟩ (.pointer (some ⟨w.heap.size + 1, 0, none⟩))).setCell ⟨g, 1, none⟩ (.int .i64 (((Wt.flat st).length : Int) + (s.length : Int)))).alloc
      (.cells #[.pointer P, .slice (some ⟨w.heap.size, 0, none⟩) s.length (bcap w 5 s)] 123)) g (s :: st.1, st.2) := by
  have hglt := hh.lt
  have hbw := bworld_below w 5 s
  have hsz := bworld_size w 5 s
  have h1 := (((hh.below hbw hglt).set 0 (.pointer (some ⟨w.heap.size + 1, 0, none⟩))).set 1 (.int .i64 (((Wt.flat st).length : Int) + (s.length : Int))))
  have c1 := (((hc.below hbw (Nat.le_refl _)).only (Only.set _ g 0 (.pointer (some ⟨w.heap.size + 1, 0, none⟩))) (Or.inl rfl)).only (Only.set _ g 1 (.int .i64 (((Wt.flat st).length : Int) + (s.length : Int)))) (Or.inl rfl))
  have hy0 : Bytes (bworld w 5 s) w.heap.size (some ⟨w.heap.size, 0, none⟩) s := fun _ => ⟨0, rfl, fun i hi => by rw [Nat.zero_add]; exact bworld_cell w _ s i hi⟩
  have hne : w.heap.size ≠ g := by omega
  have hy1 := ((Only.set _ g 1 (.int .i64 (((Wt.flat st).length : Int) + (s.length : Int)))).bytes ((Only.set _ g 0 (.pointer (some ⟨w.heap.size + 1, 0, none⟩))).bytes hy0 hne) hne)
  have ht0 : (bworld w 5 s).heap[w.heap.size]? = some (.cells (brow w 5 s) 5 ((brow w 5 s).size, (brow w 5 s).size + 1)) := by unfold bworld; exact heap_alloc_new w.drew _
  have ht1 := ((Only.set ((bworld w 5 s).setCell ⟨g, 0, none⟩ (.pointer (some ⟨w.heap.size + 1, 0, none⟩))) g 1 (.int .i64 (((Wt.flat st).length : Int) + (s.length : Int)))).block w.heap.size (by simp [World.setCell, hsz]) (fun e => hne (by injection e))).trans (((Only.set (bworld w 5 s) g 0 (.pointer (some ⟨w.heap.size + 1, 0, none⟩))).block w.heap.size (by rw [hsz]; omega) (fun e => hne (by injection e))).trans ht0)
  generalize hW3 : ((bworld w 5 s).setCell ⟨g, 0, none⟩ (.pointer (some ⟨w.heap.size + 1, 0, none⟩))).setCell ⟨g, 1, none⟩ (.int .i64 (((Wt.flat st).length : Int) + (s.length : Int))) = W3 at h1 c1 hy1 ht1 ⊢
  have hs3 : W3.heap.size = w.heap.size + 1 := by rw [← hW3]; simp [World.setCell, hsz]
  have hb4 : Below W3.heap.size W3 (W3.alloc (.cells #[.pointer P, .slice (some ⟨w.heap.size, 0, none⟩) s.length (bcap w 5 s)] 123)) := (Below.refl _ _).alloc (Nat.le_refl _) _
  have hm := Has.made W3 123 #[.pointer P, .slice (some ⟨w.heap.size, 0, none⟩) s.length (bcap w 5 s)]
  rw [hs3] at hm
  refine ⟨some ⟨w.heap.size + 1, 0, none⟩, ?_, w.heap.size + 1, P, some ⟨w.heap.size, 0, none⟩, bcap w 5 s, w.heap.size, rfl, by omega, hne, hm, (Only.of_below hb4 g).bytes hy1 hne, hs, ⟨_, _, (hb4.block w.heap.size (by omega)).trans ht1⟩, c1.below hb4 (Nat.le_refl _)⟩
  rw [hfl]
  have := h1.of_alloc (.cells #[.pointer P, .slice (some ⟨w.heap.size, 0, none⟩) s.length (bcap w 5 s)] 123)
  simpa using this

set_option maxHeartbeats 1000000 in
theorem raw_wr (s : List UInt8) (g : Nat) (st : Wt.St) (w : World) (h : Wr w g st) (hcap : (Wt.flat st).length + s.length ≤ 4611686018427387904) :
    Calls Tryz.prog 66 #[.pointer (some ⟨g, 0, none⟩), .string (S s)] w fun r w' => r = .returned (.tuple #[]) ∧ Wr w' g (Wt.raw s st) ∧ Only w w' g := by
  by_cases hs : s = []
  · subst hs
    have hr : Wt.raw [] st = st := by unfold Wt.raw; rw [if_pos rfl]
    rw [hr]
    clear hr
    go_enter Tryz.func66, Tryz.ntmps66
    go_wp2_with fail
    go_returns
    exact ⟨rfl, h, Only.refl _ _⟩
  · have hr : Wt.raw s st = (s :: st.1, st.2) := by unfold Wt.raw; rw [if_neg hs]
    have hfl : (Wt.flat (s :: st.1, st.2)).length = (Wt.flat st).length + s.length := by rw [← hr, Wt.flat_raw, List.length_append]
    rw [hr]
    clear hr
    have hse : s.isEmpty = false := by simpa using hs
    have HSE := Lib.hid hs; clear hs
    obtain ⟨P, hh, hc⟩ := h
    have h0 : w.cell? ⟨g, 0, none⟩ = some (.pointer P) := hh.cell 0
    have h1 : w.cell? ⟨g, 1, none⟩ = some (.int .i64 (Wt.flat st).length) := hh.cell 1
    have hf0 := hh.free 0
    have hf1 := hh.free 1
    have hglt := hh.lt
    have hcv := fun W => conv_bytes (P := Tryz.prog) Tryz.underlying9 Tryz.underlying91 Tryz.underlying5 W s
    have hbw := bworld_below w 5 s
    have hb0 : (bworld w 5 s).cell? ⟨g, 0, none⟩ = some (.pointer P) := (hbw.cell (p := ⟨g, 0, none⟩) hglt).trans h0
    have hb1 : (bworld w 5 s).cell? ⟨g, 1, none⟩ = some (.int .i64 (Wt.flat st).length) := (hbw.cell (p := ⟨g, 1, none⟩) hglt).trans h1
    have hbf0 : (bworld w 5 s).frozen? ⟨g, 0, none⟩ = false := (hbw.frozen (p := ⟨g, 0, none⟩) hglt).trans hf0
    have hbf1 : (bworld w 5 s).frozen? ⟨g, 1, none⟩ = false := (hbw.frozen (p := ⟨g, 1, none⟩) hglt).trans hf1
    have hg1 : g < w.heap.size + 1 := by omega
    have HH := Lib.hid hh; clear hh
    have HFL := Lib.hid hfl; clear hfl
    go_enter Tryz.func66, Tryz.ntmps66
    go_wp2_with fail
    go_returns
    exact ⟨rfl, raw_close s g st w P HH.out hc HFL.out HSE.out, raw_only s g w P _⟩

set_option maxHeartbeats 1000000 in
theorem wnum_wr (n : Int) (g : Nat) (st : Wt.St) (w : World) (h : Wr w g st) (hcap : (Wt.flat st).length ≤ 4611686018427387000) :
    Calls Tryz.prog 50 #[.pointer (some ⟨g, 0, none⟩), .int .i64 n] w fun r w' => r = .returned (.tuple #[]) ∧ Wr w' g (Wt.num n st) ∧ Only w w' g := by
  have hlen := M.encL_len n
  have hN := fun W => num_any n W
  have hW : Wt.num n st = Wt.raw (M.encL n) (if M.encL n = [] then (st.1, true) else st) := rfl
  generalize M.encL n = e at hlen hN hW
  have HN := Lib.hid hN; clear hN
  by_cases he : e = []
  · subst he
    rw [if_pos rfl] at hW
    have HW := Lib.hid hW; clear hW
    go_enter Tryz.func50, Tryz.ntmps50
    go_wp2_with fail
    refine (HN.out _).mono ?_
    rintro r w1 ⟨rfl, hb1⟩
    go_wp2_with fail
    refine (spoil_wr g st _ (h.below hb1 (Nat.le_refl _))).mono ?_
    rintro r w2 ⟨rfl, h2, ho2⟩
    go_wp2_with fail
    refine (raw_wr [] g _ _ h2 (by show (Wt.flat st).length + 0 ≤ _; omega)).mono ?_
    rintro r w3 ⟨rfl, h3, ho3⟩
    go_wp2_with fail
    go_returns
    rw [HW.out]
    exact ⟨rfl, h3, ((Only.of_below hb1 g).trans ho2).trans ho3⟩
  · rw [if_neg he] at hW
    have HW := Lib.hid hW; clear hW
    have hee : e.isEmpty = false := by simpa using he
    clear he
    go_enter Tryz.func50, Tryz.ntmps50
    go_wp2_with fail
    refine (HN.out _).mono ?_
    rintro r w1 ⟨rfl, hb1⟩
    go_wp2_with fail
    refine (raw_wr e g _ _ (h.below hb1 (Nat.le_refl _)) (by omega)).mono ?_
    rintro r w3 ⟨rfl, h3, ho3⟩
    go_wp2_with fail
    go_returns
    rw [HW.out]
    exact ⟨rfl, h3, (Only.of_below hb1 g).trans ho3⟩

set_option maxHeartbeats 1000000 in
theorem wtext_wr (s : List UInt8) (g : Nat) (st : Wt.St) (w : World) (h : Wr w g st) (hcap : (Wt.flat st).length + s.length ≤ 4611686018427380000) :
    Calls Tryz.prog 49 #[.pointer (some ⟨g, 0, none⟩), .string (S s)] w fun r w' => r = .returned (.tuple #[]) ∧ Wr w' g (Wt.text s st) ∧ Only w w' g := by
  have hN := wnum_wr s.length g st w h (by omega)
  have hfl : (Wt.flat (Wt.num s.length st)).length ≤ (Wt.flat st).length + 8 := by
    rw [Wt.flat_num, List.length_append]; have := M.encL_len s.length; omega
  have hW : Wt.text s st = Wt.raw s (Wt.num s.length st) := rfl
  generalize Wt.num s.length st = st1 at hN hfl hW
  have HN := Lib.hid hN; clear hN
  have HW := Lib.hid hW; clear hW
  go_enter Tryz.func49, Tryz.ntmps49
  go_wp2_with fail
  refine (HN.out).mono ?_
  rintro r w1 ⟨rfl, h1, ho1⟩
  go_wp2_with fail
  refine (raw_wr s g _ _ h1 (by omega)).mono ?_
  rintro r w3 ⟨rfl, h3, ho3⟩
  go_wp2_with fail
  go_returns
  rw [HW.out]
  exact ⟨rfl, h3, ho1.trans ho3⟩

theorem flat_take_le (l : List (List UInt8)) (k : Nat) (st : Wt.St) : (Wt.flat ((l.take k).foldl (fun st s => Wt.text s st) st)).length ≤ (Wt.flat st).length + (l.map fun s => s.length + 8).sum := by
  have key : ∀ (l : List (List UInt8)) (st : Wt.St), (Wt.flat (l.foldl (fun st s => Wt.text s st) st)).length ≤ (Wt.flat st).length + (l.map fun s => s.length + 8).sum := by
    intro l
    induction l with
    | nil => intro st; simp
    | cons s l ih =>
      intro st
      have h1 := ih (Wt.text s st)
      have h2 := M.encL_len s.length
      rw [Wt.flat_text, List.length_append, List.length_append] at h1
      rw [List.foldl_cons, List.map_cons, List.sum_cons]
      omega
  have h1 := key (l.take k) st
  have h2 : ((l.take k).map fun s => s.length + 8).sum ≤ (l.map fun s => s.length + 8).sum := by
    conv => rhs; rw [← List.take_append_drop k l]
    rw [List.map_append, List.sum_append]; omega
  omega

end Go.Proofs.YtdgfohffmbnjiaaGreatDoor

namespace Go.Proofs.YtdgfohffmbnjiaaGreatDoor
open Go.RowKit
set_option linter.unusedVariables false

theorem u8info : (Tryz.prog.info? 5).map (fun i => (i.zero, i.size, i.bytes)) = some (some (.int .u8 0), 1, 1) := by kernel_rfl
theorem u8size : (Tryz.prog.info? 5).map (·.size) = some 1 := by kernel_rfl

theorem made_zeros (n : Nat) : madeCells (Value.int .u8 0).cells n = (bcells (List.replicate n 0)).toArray := by
  apply Array.ext
  · simp [bcells, madeCells]
  · intro i h1 h2
    simp [bcells, madeCells, Value.cells, Nat.mod_one]
theorem splice_zeros (k : Nat) (c suf : List UInt8) :
    splice (bcells (List.replicate (k + c.length) 0 ++ suf)) k (bcells c) = bcells (List.replicate k 0 ++ (c ++ suf)) := by
  have h1 : List.replicate (k + c.length) (0 : UInt8) = List.replicate k 0 ++ List.replicate c.length 0 := List.replicate_append_replicate.symm
  rw [h1]
  simp only [splice, bcells, List.map_append, List.append_assoc, List.length_map]
  rw [List.take_append_of_le_length (by simp), List.take_of_length_le (by simp)]
  congr 2
  rw [← List.append_assoc, List.drop_append]
  simp
theorem bcells_one (l : List UInt8) : ∀ v ∈ bcells l, v.oneCell' = true := by
  intro v hv
  simp only [bcells, List.mem_map] at hv
  obtain ⟨c, _, rfl⟩ := hv
  rfl

/-- A spoiled writer gives nothing. -/
theorem all_bad (g : Nat) (st : Wt.St) (w : World) (h : Wr w g st) (hbad : st.2 = true) :
    Calls Tryz.prog 51 #[.pointer (some ⟨g, 0, none⟩)] w fun r w' => r = .returned (.tuple #[.string (S []), .bool false]) ∧ w = w' := by
  obtain ⟨P, hh, hc⟩ := h
  have h2 : w.cell? ⟨g, 2, none⟩ = some (.bool true) := by rw [hh.cell 2, ← hbad]; rfl
  clear hh hc hbad
  go_enter Tryz.func51, Tryz.ntmps51
  go_wp2_with fail
  go_ret2
  exact ⟨rfl, rfl⟩

set_option maxHeartbeats 2000000 in
theorem all_good (g : Nat) (st : Wt.St) (w : World) (h : Wr w g st) (hgood : st.2 = false) (hcap : (Wt.flat st).length ≤ 281474976710656) :
    Calls Tryz.prog 51 #[.pointer (some ⟨g, 0, none⟩)] w fun r w' => r = .returned (.tuple #[.string (S (Wt.flat st)), .bool true]) ∧ Below w.heap.size w w' := by
  obtain ⟨P, hh, hc⟩ := h
  have h0 : w.cell? ⟨g, 0, none⟩ = some (.pointer P) := hh.cell 0
  have h1 : w.cell? ⟨g, 1, none⟩ = some (.int .i64 (Wt.flat st).length) := hh.cell 1
  have h2 : w.cell? ⟨g, 2, none⟩ = some (.bool false) := by rw [hh.cell 2, ← hgood]; rfl
  have hglt := hh.lt
  have hz : (Wt.flat st).length = (Wt.flat (st.1, false)).length := rfl
  have hflat : Wt.flat st = Wt.flat (st.1, false) := rfl
  generalize hL : Wt.flat st = L at h1 hcap hz hflat ⊢
  have hz2 : L = Wt.flat (st.1, false) := hflat
  have HZ := Lib.hid hz2; clear hz hflat hz2 hL
  obtain ⟨i0, hi, hz0, hz1, hz2⟩ := info_parts u8info
  obtain ⟨n, hn⟩ : ∃ n, L.length = n := ⟨_, rfl⟩
  rw [hn] at h1 hcap
  have HN := Lib.hid hn; clear hn
  have hmk : ∀ W : World, (Instr.makeSlice 91 (.int .i64 (n : Int)) (.int .i64 (n : Int))).run Tryz.prog W = .ok (.slice (some ⟨W.heap.size, 0, none⟩) n n) (W.alloc (.cells (bcells (List.replicate n 0)).toArray 5)) := by
    intro W
    have h := run_make (P := Tryz.prog) W 91 5 i0 (.int .u8 0) Tryz.underlying91 hi hz0 .i64 .i64 (n : Int) (n : Int) (by omega) (by omega) (by rw [hz2]; omega) (by omega)
    rw [hz1, Nat.mul_one, Int.toNat_natCast, made_zeros] at h
    exact h
  clear hh hi hz0 hz1 hz2
  go_enter Tryz.func51, Tryz.ntmps51
  go_wp2_with fail
  clear hmk
  go_loopw [5, 6] (fun v5 v6 wr => ∃ (k : Nat) (cs : List (List UInt8)) (suf : List UInt8) (P : Option Addr), v5 = .int .i64 k ∧ v6 = .pointer P ∧ k ≤ n ∧ Chain w g 123 5 P cs ∧
      Hid (wr.heap[w.heap.size]? = some (.cells (bcells (List.replicate k 0 ++ suf)).toArray 5 (0, 0))) ∧ Hid (k = (Wt.flat (cs, false)).length) ∧ Hid (Wt.flat (cs, false) ++ suf = L) ∧ Below w.heap.size w wr)
    (fun v5 _ _ => (intOf v5).toNat)
  case atStart => exact ⟨n, st.1, [], P, rfl, rfl, Nat.le_refl _, hc, by rw [List.append_nil]; exact Lib.hid (Has.made w 5 (bcells (List.replicate n 0)).toArray), Lib.hid (by rw [← HZ.out, HN.out]), Lib.hid (by rw [← HZ.out]; simp), (Below.refl _ _).alloc (Nat.le_refl _) _⟩
  case round =>
    obtain ⟨k, cs, suf, P, rfl, rfl, hkn, hck, HH, HK, HL, hbk⟩ := hrel
    cases cs with
    | nil =>
      have hP : P = none := hck
      subst hP
      have hk0 : k = 0 := by rw [HK.out]; rfl
      subst hk0
      have hsuf : suf = L := by have := HL.out; simpa [Wt.flat] using this
      subst hsuf
      have hcv : ∀ W : World, W.heap[w.heap.size]? = some (.cells (bcells (List.replicate 0 0 ++ suf)).toArray 5 (0, 0)) → (convert 91 9 (.slice (some ⟨w.heap.size, 0, none⟩) n n)).run Tryz.prog W = .ok (.string (S suf)) W := fun W hW =>
        conv_text Tryz.underlying91 Tryz.underlying5 Tryz.underlying9 suf HN.out (fun i hi => by rw [Has.cell hW]; simp)
      have hcv1 := hcv wr HH.out
      clear hcv
      go_wp2_with fail
      go_ret2
      exact ⟨rfl, hbk⟩
    | cons c cs =>
      obtain ⟨q, prev, A, cap, bq, rfl, hqg, hbg, hh, hy, hcn, _, hcr⟩ := hck
      have hq0 : wr.cell? ⟨q, 0, none⟩ = some (.pointer prev) := (hh.below hbk hh.lt).cell 0
      have hq1 : wr.cell? ⟨q, 1, none⟩ = some (.slice A c.length cap) := (hh.below hbk hh.lt).cell 1
      obtain ⟨off, hA, hcells⟩ := hy hcn
      subst hA
      have hkc : k = (Wt.flat (cs, false)).length + c.length := by rw [HK.out]; simp [Wt.flat]
      obtain ⟨j, hj⟩ : ∃ j, (Wt.flat (cs, false)).length = j := ⟨_, rfl⟩
      rw [hj] at hkc
      have HJ := Lib.hid hj; clear hj
      have hcl : 0 < c.length := List.length_pos_iff.2 hcn
      have hbqlt := hy.lt hcn
      have HCELLS := Lib.hid hcells; clear hcells
      obtain ⟨m, hm⟩ : ∃ m, c.length = m := ⟨_, rfl⟩
      rw [hm] at hkc hcl hq1
      have hsub : IntKind.i64.wrap ((k : Int) - (m : Int)) = (j : Int) := by rw [IntKind.wrap_i64]; omega
      have hsub2 : (k : Int) - (m : Int) = (j : Int) := by omega
      have hj0 : (0 : Int) ≤ (j : Int) := by omega
      have hjn : (j : Int) ≤ (n : Int) := by omega
      have hjn2 : ¬ n = j := by omega
      have HM := Lib.hid hm; clear hm
      have HKC := Lib.hid hkc; clear hkc
      have HQ := Lib.hid hh
      clear hcn hh hy
      go_wp2_with fail
      have hnc : (bcells c).length = Nat.min m (n - j) := by
        rw [show (bcells c).length = c.length by simp [bcells], HM.out]
        exact (Nat.min_eq_left (by have := HKC.out; omega)).symm
      have hsrc : ∀ (W : World), Below w.heap.size w W → ∀ i v, (bcells c)[i]? = some v → W.cell? ((⟨bq, off, none⟩ : Addr).add i) = some v := by
        intro W hW i v hv
        have hil : i < c.length := by
          have := (List.getElem?_eq_some_iff.1 hv).1
          simpa [bcells] using this
        rw [show (⟨bq, off, none⟩ : Addr).add i = ⟨bq, off + i, none⟩ by unfold Addr.add; split <;> simp_all]
        rw [hW.cell (p := ⟨bq, off + i, none⟩) hbqlt, HCELLS.out i hil, hv]
      have hfit : j + (bcells c).length ≤ (bcells (List.replicate k 0 ++ suf)).length := by
        have := HKC.out; have := HM.out; simp [bcells]; omega
      have HNC := Lib.hid hnc; clear hnc
      have HSRC := Lib.hid hsrc; clear hsrc
      have HFIT := Lib.hid hfit; clear hfit
      go_region_law (refine step_copy_splice rfl (.tmp 43) (.tmp 47) 91 91 rfl 5 Tryz.underlying91 u8size (some ⟨w.heap.size, j, none⟩) (some ⟨bq, off, none⟩) (n - j) (n - j) m cap (by simp [Act.eval]) (by simp [Act.eval]) w.heap.size j (bcells (List.replicate k 0 ++ suf)) 5 HH.out (bcells c) HNC.out (fun _ => ⟨rfl, _, rfl, HSRC.out _ hbk.drew⟩) HFIT.out (bcells_one c) w.heap.size w hbk.drew (Nat.le_refl _) ?_; intro w2 HG2 hB2)
      all_goals
        have hq02 : w2.cell? ⟨q, 0, none⟩ = some (.pointer prev) := (HQ.out.below hB2 HQ.out.lt).cell 0
        go_wp2_with fail
        go_roundw
        case rel =>
          refine ⟨j, cs, c ++ suf, prev, rfl, rfl, by omega, hcr, Lib.hid ?_, Lib.hid HJ.out.symm, Lib.hid ?_, hB2⟩
          · have h := HG2.out
            rw [HKC.out, ← HM.out, splice_zeros] at h
            exact h
          · rw [← HL.out]
            simp [Wt.flat]
        case measure => have := HKC.out; simp [intOf]; omega
end Go.Proofs.YtdgfohffmbnjiaaGreatDoor
