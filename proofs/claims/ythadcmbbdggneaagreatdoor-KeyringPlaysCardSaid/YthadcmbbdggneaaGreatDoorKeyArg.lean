/-
  What an argument that is a ring's script is.
-/
import Derived.Test.YthadcmbbdggneaaGreatDoorDskAt
import Derived.Test.YthadcmbbdggneaaGreatDoorMv
import Derived.Test.YthadcmbbdggneaaGreatDoorRingOne
import Derived.Test.YthadcmbbdggneaaGreatDoorLaw
import Derived.Test.YthadcmbbdggneaaGreatDoorRows
import Derived.Deep.Slices
import Derived.SizedLaws
import Derived.Lib.SmallJoins
namespace Go.Proofs.YthadcmbbdggneaaGreatDoor
open Go.ChangeShapes Go.WideShapes Go.ChangeAt Go.RowKit
set_option linter.unusedVariables false

/-- A call of the script. -/
structure KOp where
  kind : Int
  i : Int
  c : UInt8
  A : Option Addr
  L : List Int
  cap : Nat
  f : Dsk.Fall
def KOp.cs (x : KOp) : Array Value := #[.int .i64 x.kind, .int .i64 x.i, .int .u8 (x.c.toNat : Int), .slice x.A x.L.length x.cap, .int .u64 (x.f.keep : Int), .int .i64 x.f.tear]
/-- Six cells that are a call. -/
structure KOpAt (W : World) (b o : Nat) (x : KOp) : Prop where
  c0 : W.cell? ⟨b, o, none⟩ = some (.int .i64 x.kind)
  c1 : W.cell? ⟨b, o + 1, none⟩ = some (.int .i64 x.i)
  c2 : W.cell? ⟨b, o + 2, none⟩ = some (.int .u8 (x.c.toNat : Int))
  c3 : W.cell? ⟨b, o + 3, none⟩ = some (.slice x.A x.L.length x.cap)
  c4 : W.cell? ⟨b, o + 4, none⟩ = some (.int .u64 (x.f.keep : Int))
  c5 : W.cell? ⟨b, o + 5, none⟩ = some (.int .i64 x.f.tear)
/-- The bounds of a call. -/
structure KOk (W : World) (x : KOp) : Prop where
  f : Fok x.f
  i1 : -9223372036854775808 ≤ x.i
  i2 : x.i ≤ 9223372036854775807
  l : IL W [] x.A x.L
  lc : x.L.length ≤ x.cap
  cm : x.cap ≤ 9223372036854775807
/-- A slice reads as the calls L. -/
def KOpsAt (W : World) (b off : Nat) (A : Option Addr) (L : List KOp) : Prop := L ≠ [] → A = some ⟨b, off, none⟩ ∧ b < W.heap.size ∧ ∀ k (h : k < L.length), KOpAt W b (off + k * 6) (L[k]'h)
theorem KOpAt.keep {W W' : World} {b o : Nat} {x : KOp} (h : KOpAt W b o x) (hb : W'.heap[b]? = W.heap[b]?) : KOpAt W' b o x :=
  ⟨(World.cell?_of_block hb).trans h.c0, (World.cell?_of_block hb).trans h.c1, (World.cell?_of_block hb).trans h.c2, (World.cell?_of_block hb).trans h.c3, (World.cell?_of_block hb).trans h.c4, (World.cell?_of_block hb).trans h.c5⟩
theorem KOpsAt.below {W W' : World} {b off B : Nat} {A : Option Addr} {L : List KOp} (h : KOpsAt W b off A L) (hb : Below B W W') (hB : W.heap.size ≤ B) : KOpsAt W' b off A L := fun hl => by
  obtain ⟨h1, h2, h3⟩ := h hl
  exact ⟨h1, Nat.lt_of_lt_of_le h2 hb.size, fun k hk => (h3 k hk).keep (hb.block b (by omega))⟩
theorem kopFlat {w : World} {a : Addr} {v : Value} (h : w.cell? a = some v) : a = ⟨a.block, a.off, none⟩ := by
  obtain ⟨b, o, s⟩ := a
  cases s with
  | none => rfl
  | some x => exfalso; unfold World.cell? at h; split at h <;> simp at h
theorem kopAdd (b off i : Nat) : (⟨b, off, none⟩ : Addr).add i = ⟨b, off + i, none⟩ := by unfold Addr.add; split <;> simp_all

section
variable {H : Type} {enc : TypeId × Value → H} {W : World}
set_option maxRecDepth 100000 in
theorem il_open {c : Value} {fuel : Nat} {x : DataW H × List MemPlace} (h : DataW.trod enc Tryz.prog W 0 (fun _ => true) true fuel 33 [c] = some x) :
    ∃ (A : Option Addr) (L : List Int) (cap : Nat), c = .slice A L.length cap ∧ L.length ≤ cap ∧ cap ≤ 9223372036854775807 ∧ IL W [] A L := by
  have hC : Tryz.prog.cellsOf 3 = 1 := by kernel_rfl
  rcases Deep.open_slice1 Tryz.underlying33 hC h with ⟨h0, _⟩ | ⟨a, len, cap, m, n, V, D, Pl, hcs, _, hlc, hcm, hm, hx, hi⟩
  · injection h0 with h0 _
    exact ⟨none, [], 0, h0, Nat.le_refl _, Nat.zero_le _, fun hn => absurd rfl hn⟩
  · injection hcs with hcs _
    have hm' : len ≤ m := by rw [hm]; simp; omega
    have hone : ∀ i : Fin len, ∃ k : Int, W.cell? (a.add i.1) = some (.int .i64 k) := by
      intro i
      obtain ⟨hc, ht⟩ := hi i.1 (by have := i.2; omega)
      obtain ⟨K, e0, _, _⟩ := DataW.trod_int Tryz.underlying3 ht
      injection e0 with e0
      exact ⟨K, by rw [hc, e0]⟩
    obtain ⟨f, hf⟩ : ∃ f : Fin len → Int, ∀ i : Fin len, W.cell? (a.add i.1) = some (.int .i64 (f i)) := ⟨fun i => Classical.choose (hone i), fun i => Classical.choose_spec (hone i)⟩
    clear hone hi hx
    refine ⟨some a, List.ofFn f, cap, by rw [hcs]; simp, by simpa using hlc, by simpa only [maxLen] using hcm, fun hne => ?_⟩
    have hpos : 0 < len := by
      rcases Nat.eq_zero_or_pos len with h0 | h0
      · subst h0; exact absurd (by simp) hne
      · exact h0
    have h00 := hf ⟨0, hpos⟩
    have ha : a = ⟨a.block, a.off, none⟩ := kopFlat (by simpa [Addr.add] using h00)
    have hblt : a.block < W.heap.size := World.block_lt_of_cell? W a (by simpa [Addr.add] using h00)
    refine ⟨a.block, a.off, by rw [← ha], hblt, by simp, fun j hj => ?_⟩
    have hj' : j < len := by simpa using hj
    have k0 := hf ⟨j, hj'⟩
    rw [List.getElem_ofFn]
    have hadd : a.add j = ⟨a.block, a.off + j, none⟩ := by
      have := kopAdd a.block a.off j
      rwa [← ha] at this
    rw [← hadd]
    exact k0
/-- The calls' cells, at their addresses. -/
def KOpRaw (W : World) (a : Addr) (x : KOp) : Prop :=
  (W.cell? a = some (.int .i64 x.kind) ∧ W.cell? (a.add 1) = some (.int .i64 x.i) ∧ W.cell? (a.add 2) = some (.int .u8 (x.c.toNat : Int)) ∧ W.cell? (a.add 3) = some (.slice x.A x.L.length x.cap) ∧ W.cell? (a.add 4) = some (.int .u64 (x.f.keep : Int)) ∧ W.cell? (a.add 5) = some (.int .i64 x.f.tear)) ∧ KOk W x
set_option maxRecDepth 100000 in
theorem kop_trod {fuel : Nat} {cs : List Value} {x : DataW H × List MemPlace} (a : Addr) (hc : W.cells? 0 a 6 = some cs) (h : DataW.trod enc Tryz.prog W 0 (fun _ => true) true fuel 38 cs = some x) :
    ∃ f : KOp, KOpRaw W a f := by
  obtain ⟨_, hcl, hat⟩ := World.cells?_some hc
  obtain ⟨ys, n', hn', hy, hlen, hyl, hf⟩ := DataW.trod_struct Tryz.underlying38 h
  match cs, hcl with
  | [c0, c1, c2, c3, c4, c5], _ =>
    match ys, hyl with
    | [y0, y1, y2, y3, y4], _ =>
      have C0 : Tryz.prog.cellsOf 3 = 1 := by kernel_rfl
      have C1 : Tryz.prog.cellsOf 5 = 1 := by kernel_rfl
      have C2 : Tryz.prog.cellsOf 36 = 2 := by kernel_rfl
      have C3 : Tryz.prog.cellsOf 34 = 1 := by kernel_rfl
      have C4 : Tryz.prog.cellsOf 33 = 1 := by kernel_rfl
      have f0 : DataW.trod enc Tryz.prog W 0 (fun _ => true) true n' 3 (List.take (Tryz.prog.cellsOf 3) (List.drop 0 [c0, c1, c2, c3, c4, c5])) = some y0 := hf 0 _ rfl
      have f1 : DataW.trod enc Tryz.prog W 0 (fun _ => true) true n' 3 (List.take (Tryz.prog.cellsOf 3) (List.drop 1 [c0, c1, c2, c3, c4, c5])) = some y1 := hf 1 _ rfl
      have f2 : DataW.trod enc Tryz.prog W 0 (fun _ => true) true n' 5 (List.take (Tryz.prog.cellsOf 5) (List.drop 2 [c0, c1, c2, c3, c4, c5])) = some y2 := hf 2 _ rfl
      have f3 : DataW.trod enc Tryz.prog W 0 (fun _ => true) true n' 33 (List.take (Tryz.prog.cellsOf 33) (List.drop 3 [c0, c1, c2, c3, c4, c5])) = some y3 := hf 3 _ rfl
      have f4 : DataW.trod enc Tryz.prog W 0 (fun _ => true) true n' 36 (List.take (Tryz.prog.cellsOf 36) (List.drop 4 [c0, c1, c2, c3, c4, c5])) = some y4 := hf 4 _ rfl
      rw [C0] at f0 f1
      rw [C1] at f2
      rw [C4] at f3
      rw [C2] at f4
      obtain ⟨T0, e0, x0, w0⟩ := DataW.trod_int Tryz.underlying3 f0
      obtain ⟨T1, e1, x1, w1⟩ := DataW.trod_int Tryz.underlying3 f1
      obtain ⟨T2, e2, x2, w2⟩ := DataW.trod_int Tryz.underlying5 f2
      have f3' : DataW.trod enc Tryz.prog W 0 (fun _ => true) true n' 33 [c3] = some y3 := f3
      obtain ⟨A3, L3, cap3, e3, l1, l2, l3⟩ := il_open f3'
      obtain ⟨zs, n2, _, _, _, hzl, hg⟩ := DataW.trod_struct Tryz.underlying36 f4
      match zs, hzl with
      | [z0, z1], _ =>
        have k0 : DataW.trod enc Tryz.prog W 0 (fun _ => true) true n2 34 (List.take (Tryz.prog.cellsOf 34) (List.drop 0 [c4, c5])) = some z0 := hg 0 _ rfl
        have k1 : DataW.trod enc Tryz.prog W 0 (fun _ => true) true n2 3 (List.take (Tryz.prog.cellsOf 3) (List.drop 1 [c4, c5])) = some z1 := hg 1 _ rfl
        rw [C3] at k0
        rw [C0] at k1
        obtain ⟨T4, e4, x4, w4⟩ := DataW.trod_int Tryz.underlying34 k0
        obtain ⟨T5, e5, x5, w5⟩ := DataW.trod_int Tryz.underlying3 k1
        have g0 := hat 0 (by omega)
        have g1 := hat 1 (by omega)
        have g2 := hat 2 (by omega)
        have g3 := hat 3 (by omega)
        have g4 := hat 4 (by omega)
        have g5 := hat 5 (by omega)
        simp at e0 e1 e2 e4 e5 g0 g1 g2 g3 g4 g5
        subst e0; subst e1; subst e2; subst e3; subst e4; subst e5
        unfold Lit.wf at w1 w2 w4 w5
        rw [Bool.and_eq_true, decide_eq_true_eq, decide_eq_true_eq] at w1 w2 w4 w5
        have m6 : T1 ≤ 9223372036854775807 := w1.2
        have m7 : -9223372036854775808 ≤ T1 := w1.1
        have m0 : (0 : Int) ≤ T2 := w2.1
        have m1 : T2 ≤ 255 := w2.2
        have m2 : (0 : Int) ≤ T4 := w4.1
        have m3 : T4 ≤ 18446744073709551615 := w4.2
        have m4 : -9223372036854775808 ≤ T5 := w5.1
        have m5 : T5 ≤ 9223372036854775807 := w5.2
        have hb : ((UInt8.ofNat T2.toNat).toNat : Int) = T2 := by
          have : (UInt8.ofNat T2.toNat).toNat = T2.toNat := by
            rw [UInt8.toNat_ofNat']
            exact Nat.mod_eq_of_lt (by omega)
          rw [this, Int.toNat_of_nonneg m0]
        refine ⟨⟨T0, T1, UInt8.ofNat T2.toNat, A3, L3, cap3, ⟨T4.toNat, T5⟩⟩, ⟨?_, g1, ?_, g3, ?_, g5⟩, ⟨⟨?_, m4, m5⟩, m7, m6, l3, l1, l2⟩⟩
        · have : W.cell? a = some (.int .i64 T0) := by simpa [Addr.add] using g0
          exact this
        · show W.cell? (a.add 2) = some (.int .u8 ((UInt8.ofNat T2.toNat).toNat : Int))
          rw [hb]
          exact g2
        · show W.cell? (a.add 4) = some (.int .u64 ((T4.toNat : Nat) : Int))
          rw [Int.toNat_of_nonneg m2]
          exact g4
        · show T4.toNat < 18446744073709551616
          omega
set_option maxRecDepth 100000 in
theorem kops_open {A : Option Addr} {len cap fuel : Nat} {x : DataW H × List MemPlace} (h : DataW.trod enc Tryz.prog W 0 (fun _ => true) true fuel 22 [.slice A len cap] = some x) :
    ∃ (L : List KOp) (b off : Nat), len = L.length ∧ L.length ≤ cap ∧ cap ≤ 9223372036854775807 ∧ KOpsAt W b off A L ∧ ∀ o ∈ L, KOk W o := by
  rcases Deep.open_slice Tryz.underlying22 h with ⟨h0, _⟩ | ⟨a, len', cap', m, n, D, Pl, hcs, _, hlc, hcm, hm, hx, hi⟩
  · injection h0 with h0 _
    injection h0 with _ h1 h2
    subst h1; subst h2
    exact ⟨[], 0, 0, rfl, Nat.le_refl _, Nat.zero_le _, fun hn => absurd rfl hn, fun o ho => by cases ho⟩
  · injection hcs with hcs _; injection hcs with hA hlen hcap
    subst hA; subst hlen; subst hcap
    have hm' : len ≤ m := by rw [hm]; simp; omega
    have hC : Tryz.prog.cellsOf 38 = 6 := by kernel_rfl
    have hone : ∀ i : Fin len, ∃ f : KOp, KOpRaw W (a.add (i.1 * 6)) f := by
      intro i
      obtain ⟨cs', hc, ht⟩ := hi i.1 (by have := i.2; omega)
      rw [hC] at hc
      exact kop_trod _ hc ht
    obtain ⟨f, hf⟩ : ∃ f : Fin len → KOp, ∀ i : Fin len, KOpRaw W (a.add (i.1 * 6)) (f i) := ⟨fun i => Classical.choose (hone i), fun i => Classical.choose_spec (hone i)⟩
    clear hone hi hx
    refine ⟨List.ofFn f, a.block, a.off, by simp, by simpa using hlc, by simpa only [maxLen] using hcm, fun hne => ?_, ?_⟩
    · have hpos : 0 < len := by
        rcases Nat.eq_zero_or_pos len with h0 | h0
        · subst h0; exact absurd (by simp) hne
        · exact h0
      have h00 := (hf ⟨0, hpos⟩).1.1
      have ha : a = ⟨a.block, a.off, none⟩ := kopFlat (by simpa [Addr.add] using h00)
      have hblt : a.block < W.heap.size := World.block_lt_of_cell? W a (by simpa [Addr.add] using h00)
      refine ⟨by rw [← ha], hblt, fun k hk => ?_⟩
      have hk' : k < len := by simpa using hk
      obtain ⟨⟨k0, k1, k2, k3, k4, k5⟩, _⟩ := hf ⟨k, hk'⟩
      rw [List.getElem_ofFn]
      clear hf h hm hcm hlc h00 hblt
      generalize a.block = b at ha
      generalize a.off = off at ha
      subst ha
      simp only [kopAdd] at k0 k1 k2 k3 k4 k5
      exact ⟨k0, k1, k2, k3, k4, k5⟩
    · intro o ho
      obtain ⟨i, rfl⟩ := List.mem_ofFn.1 ho
      exact (hf i).2
end
end Go.Proofs.YthadcmbbdggneaaGreatDoor
