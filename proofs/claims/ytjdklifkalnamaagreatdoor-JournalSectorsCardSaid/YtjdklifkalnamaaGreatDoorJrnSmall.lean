/-
  JrnSmall: the texts JrnMem, JrnA, JrnB in one.
-/
import Derived.Test.YtjdklifkalnamaaGreatDoorJrnTxt
import Derived.Test.YtjdklifkalnamaaGreatDoorJrnPures
import Derived.Test.YtjdklifkalnamaaGreatDoorGrdW
import Derived.Test.YtjdklifkalnamaaGreatDoorGrdA
import Derived.BigQuiet
import Derived.Deep.QuietTactic
namespace Go.Proofs.YtjdklifkalnamaaGreatDoor
open Go.RowKit
set_option linter.unusedVariables false

namespace Jrn
/-- The stamps of records, one after another. -/
def sts (L : List Rec) : List Nat := (L.map Prod.snd).flatten
theorem sts_nil : sts [] = [] := rfl
theorem sts_snoc (L : List Rec) (q : Rec) : sts (L ++ [q]) = sts L ++ q.2 := by unfold sts; simp
theorem sts_len (L : List Rec) (h : ∀ q ∈ L, Shp q) : (sts L).length = usedL L := by
  induction L with
  | nil => rfl
  | cons q L ih =>
    have e : sts (q :: L) = q.2 ++ sts L := by unfold sts; simp
    rw [e, List.length_append, ih (fun x hx => h x (List.mem_cons_of_mem _ hx)), usedL_cons, (h q (List.mem_cons_self ..)).cnt]
theorem usedL_nil : usedL [] = 0 := rfl
theorem usedL_snoc (L : List Rec) (q : Rec) : usedL (L ++ [q]) = usedL L + need q.1.length := by
  rw [usedL_append, usedL_cons]
  rfl
theorem lastOr_append : ∀ (A B : List Nat) (l : Nat), lastOr l (A ++ B) = lastOr (lastOr l A) B := by
  intro A
  induction A with
  | nil => intro B l; rfl
  | cons a A ih => intro B l; exact ih B a
theorem lastL_sts : ∀ (L : List Rec) (l : Nat), lastL l L = lastOr l (sts L) := by
  intro L
  induction L with
  | nil => intro l; rfl
  | cons q L ih =>
    intro l
    have e : sts (q :: L) = q.2 ++ sts L := by unfold sts; simp
    rw [e, lastOr_append, ← ih]
    rfl
theorem lastOr_get : ∀ (A : List Nat) (l : Nat) (h : A ≠ []), lastOr l A = A[A.length - 1]'(by cases A with | nil => exact absurd rfl h | cons a A => simp) := by
  intro A
  induction A with
  | nil => intro l h; exact absurd rfl h
  | cons a A ih =>
    intro l h
    cases A with
    | nil => rfl
    | cons b A =>
      have := ih a (by simp)
      show lastOr a (b :: A) = _
      rw [this]
      simp
theorem lastOr_in : ∀ (A : List Nat) (l : Nat), lastOr l A = l ∨ lastOr l A ∈ A := by
  intro A
  induction A with
  | nil => intro l; exact Or.inl rfl
  | cons a A ih =>
    intro l
    rcases ih a with h | h
    · exact Or.inr (by show lastOr a A ∈ _; rw [h]; exact List.mem_cons_self ..)
    · exact Or.inr (List.mem_cons_of_mem _ h)
end Jrn
/-- What stays of a journal: its block, its guard's, its disk's; where it lies, its seed, the start. -/
structure JK where
  gj : Nat
  gg : Nat
  g : Nat
  bd : Nat
  mb : Nat
  base : Nat
  size : Nat
  seed : Nat
  boot : Nat
def jcs (K : JK) (vs vr : Value) (sure firm : Nat) (dead : Bool) : Array Value :=
  #[.pointer (some ⟨K.gg, 0, none⟩), .int .i64 (K.base : Int), .int .i64 (K.size : Int), .int .i64 (K.seed : Int), vs, vr, .int .i64 (sure : Int), .int .i64 (firm : Int), .bool dead]
/-- Block gj is a journal with the records L. -/
structure JnAt (w : World) (K : JK) (vs vr : Value) (L : List Jrn.Rec) (sure firm : Nat) (dead : Bool) (wr : Nat) (d : Dsk.St) : Prop where
  has : Has w K.gj 62 (jcs K vs vr sure firm dead)
  gd : GuardAt w K.gg K.g K.bd K.mb K.boot wr d
  st : IRow w vs (Jrn.sts L)
  rc : JRow w vr (L.map Prod.fst)
  nj : K.gj ∉ [K.gg, K.g, K.bd, K.mb]
  ns : ∀ k, vs.ownBlock = some k → k ∉ [K.gj, K.gg, K.g, K.bd, K.mb]
  nr : ∀ k, vr.ownBlock = some k → k ∉ [K.gj, K.gg, K.g, K.bd, K.mb]
  nsr : ∀ k, vs.ownBlock = some k → vr.ownBlock ≠ some k
  shp : ∀ q ∈ L, Jrn.Shp q
  room : Jrn.usedL L ≤ K.size
  top : K.base + K.size ≤ 8192
  sd : K.seed < 4294967296
  stl : ∀ t ∈ Jrn.sts L, t < 9223372036854775808
/-- A journal's cells. -/
def JCells (W : World) (K : JK) (vs vr : Value) (sure firm : Nat) (dead : Bool) : Prop :=
  W.cell? ⟨K.gj, 0, none⟩ = some (.pointer (some ⟨K.gg, 0, none⟩)) ∧ W.cell? ⟨K.gj, 1, none⟩ = some (.int .i64 (K.base : Int)) ∧ W.cell? ⟨K.gj, 2, none⟩ = some (.int .i64 (K.size : Int)) ∧ W.cell? ⟨K.gj, 3, none⟩ = some (.int .i64 (K.seed : Int)) ∧
  W.cell? ⟨K.gj, 4, none⟩ = some vs ∧ W.cell? ⟨K.gj, 5, none⟩ = some vr ∧ W.cell? ⟨K.gj, 6, none⟩ = some (.int .i64 (sure : Int)) ∧ W.cell? ⟨K.gj, 7, none⟩ = some (.int .i64 (firm : Int)) ∧ W.cell? ⟨K.gj, 8, none⟩ = some (.bool dead)
section
variable {w w' : World} {K : JK} {vs vr : Value} {L : List Jrn.Rec} {sure firm : Nat} {dead : Bool} {wr : Nat} {d : Dsk.St}
theorem JnAt.cs (h : JnAt w K vs vr L sure firm dead wr d) : JCells w K vs vr sure firm dead :=
  ⟨h.has.cell 0, h.has.cell 1, h.has.cell 2, h.has.cell 3, h.has.cell 4, h.has.cell 5, h.has.cell 6, h.has.cell 7, h.has.cell 8⟩
theorem JnAt.below (h : JnAt w K vs vr L sure firm dead wr d) (hb : Below w.heap.size w w') : JnAt w' K vs vr L sure firm dead wr d :=
  ⟨h.has.below hb h.has.lt, h.gd.below hb, h.st.below hb, h.rc.below hb, h.nj, h.ns, h.nr, h.nsr, h.shp, h.room, h.top, h.sd, h.stl⟩
theorem JnAt.last_lt (h : JnAt w K vs vr L sure firm dead wr d) : Jrn.lastL K.seed L < 9223372036854775808 := by
  rw [Jrn.lastL_sts]
  have := h.sd
  rcases Jrn.lastOr_in (Jrn.sts L) K.seed with e | e
  · rw [e]; omega
  · exact h.stl _ e
theorem JnAt.drew (h : JnAt w K vs vr L sure firm dead wr d) : JnAt w.drew K vs vr L sure firm dead wr d := h.below (Below.refl _ w).drew
/-- The blocks that a journal's calls turn. -/
def JK.all (K : JK) (vs vr : Value) : List Nat := [K.gj, K.gg, K.g, K.bd, K.mb] ++ (vs.ownBlock.toList ++ vr.ownBlock.toList)
/-- Of these, its own. -/
def JK.own (K : JK) (vs vr : Value) : List Nat := K.gj :: (vs.ownBlock.toList ++ vr.ownBlock.toList)
theorem JK.own_all (K : JK) (vs vr : Value) : ∀ x ∈ K.own vs vr, x ∈ K.all vs vr := fun x hx => by
  unfold JK.own at hx
  unfold JK.all
  rcases List.mem_cons.1 hx with rfl | hx
  · simp
  · exact List.mem_append_right _ hx
theorem JnAt.lts (h : JnAt w K vs vr L sure firm dead wr d) : ∀ k ∈ K.all vs vr, k < w.heap.size := by
  intro k hk
  have h1 := h.gd.disk.lt
  have h2 := h.gd.cells.lt
  have h3 := h.has.lt
  unfold JK.all at hk
  rcases List.mem_append.1 hk with hk | hk
  · simp only [List.mem_cons, List.not_mem_nil, or_false] at hk
    omega
  · rcases List.mem_append.1 hk with hk | hk
    · exact h.st.lt k (by simpa using hk)
    · exact h.rc.lt k (by simpa using hk)
/-- What stands elsewhere has turned. -/
theorem JnAt.mv {s : List Nat} (h : JnAt w K vs vr L sure firm dead wr d) (hm : Mv w w' s) (hs : ∀ k ∈ s, k ∉ K.all vs vr) : JnAt w' K vs vr L sure firm dead wr d := by
  have hin : ∀ k, k ∈ K.all vs vr → k ∉ s := fun k hk hn => hs k hn hk
  have m5 : ∀ k, k ∈ [K.gj, K.gg, K.g, K.bd, K.mb] → k ∉ s := fun k hk => hin k (List.mem_append_left _ hk)
  refine ⟨hm.has h.has (m5 _ (by simp)), ⟨hm.has h.gd.cells (m5 _ (by simp)), h.gd.disk.mv hm (m5 _ (by simp)) (m5 _ (by simp)) (m5 _ (by simp)), h.gd.n1, h.gd.n2, h.gd.n3, h.gd.lo, h.gd.hi⟩, h.st.mv hm fun k hk => hin k ?_, h.rc.mv hm fun k hk => hin k ?_, h.nj, h.ns, h.nr, h.nsr, h.shp, h.room, h.top, h.sd, h.stl⟩
  · exact List.mem_append_right _ (List.mem_append_left _ (by simp [hk]))
  · exact List.mem_append_right _ (List.mem_append_right _ (by simp [hk]))
/-- The guard, or its disk, has turned. -/
theorem JnAt.turn {wr' : Nat} {d' : Dsk.St} (h : JnAt w K vs vr L sure firm dead wr d) (hg : GuardAt w' K.gg K.g K.bd K.mb K.boot wr' d') (hm : Mv w w' [K.gg, K.g, K.bd, K.mb]) : JnAt w' K vs vr L sure firm dead wr' d' :=
  ⟨hm.has h.has h.nj, hg, h.st.mv hm fun k hk hn => h.ns k hk (List.mem_cons_of_mem _ hn), h.rc.mv hm fun k hk hn => h.nr k hk (List.mem_cons_of_mem _ hn), h.nj, h.ns, h.nr, h.nsr, h.shp, h.room, h.top, h.sd, h.stl⟩
/-- A number of its own, or that it is dead, is stored. -/
theorem JnAt.set (h : JnAt w K vs vr L sure firm dead wr d) (i : Nat) (u : Value) (sure' firm' : Nat) (dead' : Bool) (e : (jcs K vs vr sure firm dead).setIfInBounds i u = jcs K vs vr sure' firm' dead') : JnAt (w.setCell ⟨K.gj, i, none⟩ u) K vs vr L sure' firm' dead' wr d := by
  have ho := Only.set w K.gj i u
  have hm : Mv w (w.setCell ⟨K.gj, i, none⟩ u) [K.gj] := Mv.of_only ho (by simp)
  have n5 := h.nj
  simp only [List.mem_cons, List.not_mem_nil, or_false, not_or] at n5
  have hh := h.has.set i u
  rw [e] at hh
  refine ⟨hh, ⟨hm.has h.gd.cells (by simp only [List.mem_singleton]; omega), h.gd.disk.mv hm (by simp only [List.mem_singleton]; omega) (by simp only [List.mem_singleton]; omega) (by simp only [List.mem_singleton]; omega), h.gd.n1, h.gd.n2, h.gd.n3, h.gd.lo, h.gd.hi⟩, h.st.mv hm fun k hk hn => ?_, h.rc.mv hm fun k hk hn => ?_, h.nj, h.ns, h.nr, h.nsr, h.shp, h.room, h.top, h.sd, h.stl⟩
  · exact h.ns k hk (by rw [List.mem_singleton.1 hn]; simp)
  · exact h.nr k hk (by rw [List.mem_singleton.1 hn]; simp)
end
end Go.Proofs.YtjdklifkalnamaaGreatDoor

namespace Go.Proofs.YtjdklifkalnamaaGreatDoor
open Go.RowKit
set_option linter.unusedVariables false

theorem jnneed_any (n : Nat) (hn : n ≤ 1000000000) (w : World) : Calls Tryz.prog 37 #[.int .i64 (n : Int)] w fun e w' => e = .returned (.int .i64 (Jrn.need n : Int)) ∧ w' = w := by
  by_cases h : n ≤ 36
  · have h1 : (n : Int) ≤ 36 := by omega
    have e : Jrn.need n = 1 := by unfold Jrn.need; omega
    rw [e]
    clear hn h e
    go_enter Tryz.func37, Tryz.ntmps37
    go_wp2_with fail
    go_ret
    exact ⟨rfl, rfl⟩
  · have h1 : ¬ (n : Int) ≤ 36 := by omega
    have h2 : (n : Int) ≤ 1000000000 := by omega
    have h3 : (36 : Int) < (n : Int) := by omega
    have e : 2 + ((n : Int) - 36 - 1).tdiv 38 = (Jrn.need n : Int) := by
      have e1 : (n : Int) - 36 - 1 = ((n - 37 : Nat) : Int) := by omega
      rw [e1, Int.tdiv_eq_ediv_of_nonneg (by omega)]
      unfold Jrn.need
      omega
    have hp : (0 : Int) ≤ ((n : Int) - 36 - 1).tdiv 38 := by
      rw [Int.tdiv_eq_ediv_of_nonneg (by omega)]
      omega
    have hp2 : ((n : Int) - 36 - 1).tdiv 38 ≤ 1000000000 := by
      rw [Int.tdiv_eq_ediv_of_nonneg (by omega)]
      omega
    have HE := Lib.hid e
    clear hn h e
    go_enter Tryz.func37, Tryz.ntmps37
    go_wp2_with fail
    go_ret
    exact ⟨by rw [HE.out]; rfl, rfl⟩
theorem jbefore_any (k link : Nat) (hl : link < 18446744073709551616) (w : World) : Calls Tryz.prog 55 #[.int .i64 (k : Int), .int .i64 (link : Int)] w fun e w' => e = .returned (.string (S (Jrn.sc k link))) ∧ Below w.heap.size w w' := by
  have HE := Lib.hid (fun W => eight_any (link : Int) W)
  rw [Grd.eightI_nat link hl] at HE
  have hlen : (Grd.eight link).length = 8 := Grd.eight_len link
  have h1 : ¬ 9223372036854775807 < 1 + (Grd.eight link).length := by rw [hlen]; decide
  by_cases h : k = 0
  · have h0 : ((k : Int) == 0) = true := by rw [h]; rfl
    have e : Jrn.sc k link = [1] ++ Grd.eight link := by unfold Jrn.sc; rw [if_pos h]; rfl
    have es : ByteArray.mk #[1] = S [1] := rfl
    rw [e]
    generalize Grd.eight link = E at HE h1 hlen
    clear h e hlen
    go_enter Tryz.func55, Tryz.ntmps55
    go_wp2_with fail
    refine (HE.out _).mono ?_
    rintro r w1 ⟨rfl, hb⟩
    simp only [es]
    go_wp2_with fail
    go_ret
    exact ⟨rfl, hb⟩
  · have h0 : ((k : Int) == 0) = false := by rw [beq_eq_false_iff_ne]; omega
    have e : Jrn.sc k link = [2] ++ Grd.eight link := by unfold Jrn.sc; rw [if_neg h]; rfl
    have es : ByteArray.mk #[2] = S [2] := rfl
    rw [e]
    generalize Grd.eight link = E at HE h1 hlen
    clear h e hlen
    go_enter Tryz.func55, Tryz.ntmps55
    go_wp2_with fail
    refine (HE.out _).mono ?_
    rintro r w1 ⟨rfl, hb⟩
    simp only [es]
    go_wp2_with fail
    go_ret
    exact ⟨rfl, hb⟩
/-- A new row of texts. -/
def RowPost' (w : World) (L : List (List UInt8)) (e : Ending) (w' : World) : Prop := ∃ v, e = .returned v ∧ JOwn w.heap.size w' v L ∧ Below w.heap.size w w'
set_option maxRecDepth 100000 in
set_option maxHeartbeats 2000000 in
theorem jparts_any (s : List UInt8) (hs : s.length ≤ 1000000) (w : World) : Calls Tryz.prog 53 #[.string (S s)] w (RowPost' w (Jrn.parts s)) := by
  have HE := Lib.hid (fun W => eight_any (s.length : Int) W)
  rw [Grd.eightI_nat s.length (by omega)] at HE
  have hlen : (Grd.eight s.length).length = 8 := Grd.eight_len _
  have hbe : (Grd.eight s.length).drop 6 = Jrn.be2 s.length := by
    unfold Grd.eight Jrn.be2
    rfl
  have hnp := Jrn.need_pos s.length
  have hpd : Jrn.parts s = Jrn.cuts (Jrn.need s.length - 1) (Jrn.be2 s.length ++ s) := rfl
  have hm0 : 38 * (Jrn.need s.length - 1) < (Jrn.be2 s.length ++ s).length ∧ (Jrn.be2 s.length ++ s).length ≤ 38 * (Jrn.need s.length - 1 + 1) := by
    rw [List.length_append, Jrn.be2_len]
    unfold Jrn.need
    omega
  have hM : Jrn.need s.length - 1 ≤ 30000 := by unfold Jrn.need; omega
  have hsz : (s.length : Int) ≤ 1000000 := by omega
  unfold RowPost'
  have HPD := Lib.hid hpd
  have HM0 := Lib.hid (And.intro hm0 hM)
  have HBE := Lib.hid hbe
  generalize Jrn.parts s = res at HPD ⊢
  generalize Jrn.need s.length - 1 = m at HPD HM0
  generalize Grd.eight s.length = E at HE hlen HBE
  clear hnp hm0 hM hbe hpd
  have hg1 : ¬ 9223372036854775807 < 2 + s.length := by omega
  have hz6 : (E.length : Int) = 8 := by omega
  have hz7 : (6 : Int) ≤ (E.length : Int) := by omega
  have HH : Hid (S (E.drop 6 ++ s) = S (E.drop 6 ++ s)) := Lib.hid rfl
  go_enter Tryz.func53, Tryz.ntmps53
  go_wp2_with fail
  refine (HE.out _).mono ?_
  rintro r w1 ⟨rfl, hb⟩
  have HB := Lib.hid hb
  clear hb HE
  go_wp2_with fail
  go_loopw [4, 5] (fun v4 v5 wr => ∃ (acc : List (List UInt8)) (t : List UInt8) (j : Nat), v4 = .string (S t) ∧ res = acc ++ Jrn.cuts j t ∧ 38 * j < t.length ∧ t.length ≤ 38 * (j + 1) ∧ acc.length + j = m ∧ JOwn w.heap.size wr v5 acc ∧ Below w.heap.size w wr) (fun v4 _ _ => vS v4)
  case atStart =>
    have e8 : E.take 8 = E := List.take_of_length_le (by omega)
    refine ⟨[], Jrn.be2 s.length ++ s, m, by rw [e8, HBE.out], by rw [HPD.out]; rfl, HM0.out.1.1, HM0.out.1.2, by simp, JOwn.nil _ _, HB.out⟩
  case round =>
    obtain ⟨acc, t, j, rfl, hres, h1, h2, h3, hrow, hb⟩ := hrel
    have hM := HM0.out.2
    have hacc : acc.length ≤ 1000000 := by omega
    have hsz0 := hb.size
    cases j with
    | zero =>
      have k1 : ¬ (38 : Int) < (t.length : Int) := by omega
      have hM : (wr.alloc (.cells #[.string (S t)] 9)).cell? ⟨wr.heap.size, 0, none⟩ = some (.string (S t)) := (Has.made wr 9 #[.string (S t)]).cell 0
      have hup := (Below.refl _ wr).alloc (Nat.le_refl _) (.cells #[.string (S t)] 9)
      have HM := Lib.hid hM
      have HR := Lib.hid (hrow.below hup)
      have HB := Lib.hid (hb.trans (hup.mono hb.size))
      have HRS := Lib.hid hres
      clear hM hup hrow hb hres h1 h2
      go_wp2_with (at_builtin; refine wpList_append_pl rfl (.tmp 26) (.tmp 28) rfl _ acc t wr.heap.size rfl rfl HR.out.row HM.out hacc ?_; intro v' w6 hrow hmv hob; have HX := Lib.hid (And.intro hrow (And.intro hmv hob)); clear hrow hmv hob)
      go_ret
      have hs1 : w.heap.size ≤ (wr.alloc (.cells #[.string (S t)] 9)).heap.size := by simp; omega
      refine ⟨v', rfl, ?_, HR.out.bel HB.out hs1 HX.out.2.1⟩
      have := HR.out.app HX.out.1 HX.out.2.2 hs1
      rw [HRS.out]
      exact this
    | succ j =>
      have k1 : (38 : Int) < (t.length : Int) := by omega
      have k2 : (38 : Int) ≤ (t.length : Int) := by omega
      have hM : (wr.alloc (.cells #[.string (S (t.take 38))] 9)).cell? ⟨wr.heap.size, 0, none⟩ = some (.string (S (t.take 38))) := (Has.made wr 9 #[.string (S (t.take 38))]).cell 0
      have hup := (Below.refl _ wr).alloc (Nat.le_refl _) (.cells #[.string (S (t.take 38))] 9)
      have HM := Lib.hid hM
      have HR := Lib.hid (hrow.below hup)
      have HB := Lib.hid (hb.trans (hup.mono hb.size))
      have HRS := Lib.hid hres
      have HLT := Lib.hid (And.intro h1 h2)
      clear hM hup hrow hb hres h1 h2
      go_wp2_with (at_builtin; refine wpList_append_pl rfl (.tmp 19) (.tmp 22) rfl _ acc (t.take 38) wr.heap.size rfl rfl HR.out.row HM.out hacc ?_; intro v' w6 hrow hmv hob; have HX := Lib.hid (And.intro hrow (And.intro hmv hob)); clear hrow hmv hob)
      have hs1 : w.heap.size ≤ (wr.alloc (.cells #[.string (S (t.take 38))] 9)).heap.size := by simp; omega
      have hbel := HR.out.bel HB.out hs1 HX.out.2.1
      have happ := HR.out.app HX.out.1 HX.out.2.2 hs1
      obtain ⟨q1, q2⟩ := HLT.out
      have etk : t.take t.length = t := List.take_length
      go_roundw
      · refine ⟨acc ++ [t.take 38], t.drop 38, j, rfl, by rw [HRS.out, List.append_assoc]; rfl, by rw [List.length_drop]; omega, by rw [List.length_drop]; omega, by rw [List.length_append, List.length_singleton]; omega, happ, hbel⟩
      · simp only [vS, S_size, List.length_drop, List.length_take]; omega
end Go.Proofs.YtjdklifkalnamaaGreatDoor

namespace Go.Proofs.YtjdklifkalnamaaGreatDoor
open Go.RowKit
set_option linter.unusedVariables false

section
variable {w : World} {K : JK} {vs vr : Value} {L : List Jrn.Rec} {sure firm : Nat} {dead : Bool} {wr : Nat} {d : Dsk.St}
theorem jworks_any (h : JnAt w K vs vr L sure firm dead wr d) : Calls Tryz.prog 29 #[.pointer (some ⟨K.gj, 0, none⟩)] w fun e w' => e = .returned (.bool true) ∧ w' = w := by
  obtain ⟨c0, -⟩ := h.cs
  clear h
  go_enter Tryz.func29, Tryz.ntmps29
  go_wp2_with fail
  go_ret
  exact ⟨rfl, rfl⟩
theorem jnused_any (h : JnAt w K vs vr L sure firm dead wr d) : Calls Tryz.prog 20 #[.pointer (some ⟨K.gj, 0, none⟩)] w fun e w' => e = .returned (.int .i64 (Jrn.usedL L : Int)) ∧ w' = w := by
  have HW := Lib.hid (jworks_any h)
  obtain ⟨-, -, -, -, c4, -⟩ := h.cs
  obtain ⟨A, cap, rfl, -, -, -⟩ := h.st.any
  rw [Jrn.sts_len L h.shp] at c4
  clear h
  go_enter Tryz.func20, Tryz.ntmps20
  go_wp2_with fail
  refine HW.out.mono ?_
  rintro r w1 ⟨rfl, rfl⟩
  go_wp2_with fail
  go_ret
  exact ⟨rfl, rfl⟩
set_option maxHeartbeats 1000000 in
theorem jnleft_any (h : JnAt w K vs vr L sure firm dead wr d) : Calls Tryz.prog 24 #[.pointer (some ⟨K.gj, 0, none⟩)] w fun e w' => e = .returned (.int .i64 ((K.size : Int) - (Jrn.usedL L : Int))) ∧ Below w.heap.size w w' := by
  have HW := Lib.hid (jworks_any h)
  have HU : Hid (∀ n, Calls Tryz.prog 20 #[.pointer (some ⟨K.gj, 0, none⟩)] (w.drewN n) fun e w' => e = .returned (.int .i64 (Jrn.usedL L : Int)) ∧ w' = w.drewN n) :=
    Lib.hid (fun n => jnused_any (h.below (below_drewN (Below.refl _ w) n)))
  obtain ⟨-, -, c2, -⟩ := h.cs
  have h1 := h.room
  have h2 := h.top
  have h3 : (Jrn.usedL L : Int) ≤ (K.size : Int) := by omega
  have h4 : (K.size : Int) ≤ 8192 := by omega
  have h5 : (0 : Int) ≤ (Jrn.usedL L : Int) := by omega
  generalize Jrn.usedL L = u at HU h1 h3 h5 ⊢
  clear h
  go_enter Tryz.func24, Tryz.ntmps24
  go_wp2_with fail
  refine HW.out.mono ?_
  rintro r w1 ⟨rfl, rfl⟩
  go_upto_region 3 with fail
  go_quiet ((go_at_call 20; exact Calls.quiet_of_same (HU.out _)))
  go_wp2_with fail
  go_ret
  exact ⟨rfl, below_drewN (Below.refl _ _) _⟩
/-- The link of the next sector. -/
theorem jnlast_any (h : JnAt w K vs vr L sure firm dead wr d) : Calls Tryz.prog 52 #[.pointer (some ⟨K.gj, 0, none⟩)] w fun e w' => e = .returned (.int .i64 (Jrn.lastL K.seed L : Int)) ∧ Below w.heap.size w w' := by
  obtain ⟨-, -, -, c3, c4, -⟩ := h.cs
  rw [Jrn.lastL_sts]
  obtain ⟨A, cap, rfl, hlc, hcm, hcell⟩ := h.st.any
  have hroom := h.room
  have htop := h.top
  have hl := Jrn.sts_len L h.shp
  clear h
  generalize Jrn.sts L = S at *
  by_cases h0 : S = []
  · subst h0
    clear hcell hl hroom htop hlc hcm
    go_enter Tryz.func52, Tryz.ntmps52
    go_wp2_with fail
    go_ret
    exact ⟨rfl, Below.refl _ _⟩
  · have hpos : 0 < S.length := List.length_pos_iff.2 h0
    rw [Jrn.lastOr_get S K.seed h0]
    obtain ⟨g, rfl, hc⟩ := hcell (S.length - 1) (by omega)
    generalize S[S.length - 1]'(by omega) = x at hc ⊢
    have k0 : ((S.length : Int) == 0) = false := by rw [beq_eq_false_iff_ne]; omega
    have k1 : (0 : Int) < (S.length : Int) := by omega
    have k2 : (S.length : Int) ≤ 8192 := by omega
    have k3 : ((S.length : Int) - 1).toNat = S.length - 1 := by omega
    have k4 : (S.length : Int) ≤ (cap : Int) := by omega
    have k5 : (cap : Int) ≤ 9223372036854775807 := by omega
    clear hcell hroom htop hl hlc hcm h0
    generalize S.length = n at *
    go_enter Tryz.func52, Tryz.ntmps52
    go_wp2_with fail
    go_quiet (fail)
    go_wp2_with fail
    go_ret
    exact ⟨rfl, below_drewN (Below.refl _ _) _⟩
end
end Go.Proofs.YtjdklifkalnamaaGreatDoor
