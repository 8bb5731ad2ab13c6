/-
  The contract of mill's Veil.
-/
import Derived.Test.YtlbdpadifhgloaaDoorMillStream
import Derived.Test.YtlbdpadifhgloaaDoorMillNone
namespace Go.Proofs.YtlbdpadifhgloaaDoor
open Go.RowKit
set_option linter.unusedVariables false

/-- Each byte turned by another. -/
def Mill.veil (X s : List UInt8) : List UInt8 := List.zipWith (· ^^^ ·) X s
theorem Mill.veil_len (X s : List UInt8) (h : X.length = s.length) : (Mill.veil X s).length = s.length := by simp [Mill.veil, h]
theorem Mill.veil_comm (X s : List UInt8) : Mill.veil X s = Mill.veil s X := by
  unfold Mill.veil
  rw [List.zipWith_comm]
  congr 1
  funext a b
  exact UInt8.xor_comm _ _
theorem Mill.veil_twice : ∀ (X s : List UInt8), X.length = s.length → Mill.veil X (Mill.veil X s) = s
  | [], [], _ => rfl
  | x :: X, c :: s, h => by
    have ih := Mill.veil_twice X s (by simpa using h)
    unfold Mill.veil at *
    simp only [List.zipWith_cons_cons, List.cons.injEq]
    exact ⟨by rw [← UInt8.xor_assoc, UInt8.xor_self, UInt8.zero_xor], ih⟩
  | [], _ :: _, h => by simp at h
  | _ :: _, [], h => by simp at h
/-- The first i bytes are turned. -/
def veilI (X s : List UInt8) (i : Nat) : List UInt8 := (Mill.veil X s).take i ++ X.drop i
theorem veilI_len (X s : List UInt8) (h : X.length = s.length) (i : Nat) : (veilI X s i).length = X.length := by simp [veilI, Mill.veil_len X s h]; omega
theorem veilI_all (X s : List UInt8) (h : X.length = s.length) : veilI X s s.length = Mill.veil X s := by
  unfold veilI
  rw [List.take_of_length_le (by rw [Mill.veil_len X s h]; omega), List.drop_of_length_le (by omega), List.append_nil]
theorem veilI_at (X s : List UInt8) (h : X.length = s.length) (i : Nat) (hi : i < X.length) : (veilI X s i)[i]? = some (X[i]'hi) := by
  unfold veilI
  have hl : ((Mill.veil X s).take i).length = i := by rw [List.length_take, Mill.veil_len X s h]; omega
  rw [List.getElem?_append_right (by omega), hl]
  simp [hi]
theorem veilI_set (X s : List UInt8) (h : X.length = s.length) (i : Nat) (hi : i < X.length) : (veilI X s i).set i ((X[i]'hi) ^^^ (s[i]'(by omega))) = veilI X s (i + 1) := by
  have hv : i < (Mill.veil X s).length := by rw [Mill.veil_len X s h]; omega
  have hl : ((Mill.veil X s).take i).length = i := by rw [List.length_take]; omega
  unfold veilI
  rw [List.set_append_right _ _ (by omega), hl, Nat.sub_self, List.drop_eq_getElem_cons hi, List.set_cons_zero, List.take_succ_eq_append_getElem hv]
  simp [Mill.veil]

/-- A block that begins with the bytes l, none of them frozen. -/
def Fr (w : World) (g : Nat) (l : List UInt8) : Prop := ∃ cs fr, w.heap[g]? = some (.cells cs 5 fr) ∧ (∀ i, i < l.length → cs[i]? = (bcells l)[i]?) ∧ ∀ i, i < l.length → ¬ (fr.1 ≤ i ∧ i < fr.2)
theorem Fr.lt {w : World} {g : Nat} {l : List UInt8} (h : Fr w g l) : g < w.heap.size := by
  obtain ⟨cs, fr, h1, _⟩ := h
  exact (Array.getElem?_eq_some_iff.1 h1).1
theorem Fr.cell {w : World} {g : Nat} {l : List UInt8} (h : Fr w g l) (i : Nat) (hi : i < l.length) : w.cell? ⟨g, i, none⟩ = (bcells l)[i]? := by
  obtain ⟨cs, fr, h1, h2, _⟩ := h
  simp only [World.cell?, h1]
  exact h2 i hi
theorem Fr.free {w : World} {g : Nat} {l : List UInt8} (h : Fr w g l) (i : Nat) (hi : i < l.length) : w.frozen? ⟨g, i, none⟩ = false := by
  obtain ⟨cs, fr, h1, _, h3⟩ := h
  obtain ⟨lo, hi'⟩ := fr
  have := h3 i hi
  simp only [World.frozen?, h1]
  simp only [not_and] at this
  by_cases hlo : lo ≤ i
  · have := this hlo; simp [hlo]; omega
  · simp [hlo]
theorem Fr.set {w : World} {g : Nat} {l : List UInt8} (h : Fr w g l) (i : Nat) (c : UInt8) : Fr (w.setCell ⟨g, i, none⟩ (.int .u8 (c.toNat : Int))) g (l.set i c) := by
  obtain ⟨cs, fr, h1, h2, h3⟩ := h
  refine ⟨cs.setIfInBounds i (.int .u8 (c.toNat : Int)), fr, by simp [World.setCell, Array.getElem?_modify, h1], fun j hj => ?_, fun j hj => h3 j (by simpa using hj)⟩
  rw [List.length_set] at hj
  have hb : bcells (l.set i c) = (bcells l).set i (.int .u8 (c.toNat : Int)) := by simp [bcells, List.map_set]
  rw [hb, List.getElem?_set, Array.getElem?_setIfInBounds]
  have hl := h2 j hj
  have hlen : (bcells l).length = l.length := by simp [bcells]
  have hcs : j < cs.size := by
    have : (bcells l)[j]? ≠ none := by rw [List.getElem?_eq_getElem (by omega)]; simp
    rw [← hl] at this
    by_cases hq : j < cs.size
    · exact hq
    · exact absurd (Array.getElem?_eq_none (by omega)) this
  by_cases hij : i = j
  · subst hij; simp [hlen, hj, hcs]
  · simp only [hij, if_false]; exact hl
theorem Fr.below {w w' : World} {g : Nat} {l : List UInt8} {B : Nat} (h : Fr w g l) (hb : Below B w w') (hg : g < B) : Fr w' g l := by
  obtain ⟨cs, fr, h1, h2⟩ := h
  exact ⟨cs, fr, (hb.block g hg).trans h1, h2⟩
theorem Fr.drew {w : World} {g : Nat} {l : List UInt8} (h : Fr w g l) : Fr w.drew g l := h
theorem Fr.bytes {w : World} {g : Nat} {l : List UInt8} (h : Fr w g l) : Bytes w g (some ⟨g, 0, none⟩) l := fun _ => ⟨0, rfl, fun i hi => by rw [Nat.zero_add]; exact h.cell i hi⟩
theorem Fr.made (W : World) (l : List UInt8) : Fr (bworld W 5 l) W.heap.size l := by
  have h : (bworld W 5 l).heap[W.heap.size]? = some (.cells (brow W 5 l) 5 ((brow W 5 l).size, (brow W 5 l).size + 1)) := by
    unfold bworld; exact heap_alloc_new W.drew _
  have hsz : l.length ≤ (brow W 5 l).size := by
    unfold brow bytesRow; simp [S]
  refine ⟨_, _, h, fun i hi => ?_, fun i hi => by simp; omega⟩
  have := bworld_cell W 5 l i hi
  simp only [World.cell?, h] at this
  exact this

set_option maxRecDepth 100000 in
set_option maxHeartbeats 4000000 in
theorem veil_of (X k label s : List UInt8) (g : Nat) (w : World) (hs : s.length ≤ 1000000) (hX : X.length = s.length)
    (hS : Calls Tryd.prog 37 #[.pointer (some ⟨g, 0, none⟩), .string (S k), .string (S label), .int .i64 (s.length : Int)] w (TextPost w X)) :
    Calls Tryd.prog 25 #[.pointer (some ⟨g, 0, none⟩), .string (S k), .string (S label), .string (S s)] w (TextPost w (Mill.veil X s)) := by
  have HS := Lib.hid hS; clear hS
  have hcv := fun W => conv_bytes (P := Tryd.prog) Tryd.underlying9 Tryd.underlying64 Tryd.underlying5 W X
  have hall := veilI_all X s hX
  obtain ⟨res, hres⟩ : ∃ r, Mill.veil X s = r := ⟨_, rfl⟩
  rw [hres] at hall ⊢
  have HALL := Lib.hid hall; clear hall hres
  go_enter Tryd.func25, Tryd.ntmps25
  go_wp2_with fail
  refine HS.out.mono ?_
  rintro r1 w1 ⟨rfl, hb1⟩
  go_upto_region 2 with (fail)
  have hbw := hb1.trans ((bworld_below w1 5 X).mono hb1.size)
  have hfr := Fr.made w1 X
  have h0 : veilI X s 0 = X := by simp [veilI]
  generalize bworld w1 5 X = W at hbw hfr ⊢
  generalize bcap w1 5 X = cap
  have hge := hb1.size
  clear hcv hb1
  generalize w1.heap.size = G at hfr hge ⊢
  go_wp2_with fail
  go_loopw [10, 20] (fun v10 v20 wr => ∃ i : Nat, i ≤ s.length ∧ v20 = .int .i64 i ∧ Fr wr G (veilI X s i) ∧ Below w.heap.size w wr) (fun _ v20 _ => s.length - (intOf v20).toNat)
  case atStart => exact ⟨0, Nat.zero_le _, rfl, by rw [h0]; exact hfr, hbw⟩
  case round =>
    clear hfr hbw h0
    obtain ⟨i, hi, rfl, hfr, hb⟩ := hrel
    have hi0 : (0 : Int) ≤ (i : Int) := by omega
    have hvl := veilI_len X s hX i
    by_cases hlt : i < s.length
    · have hX2 := hX
      have hii : (i : Int) < (s.length : Int) := by omega
      have hmax : (s.length : Int) ≤ 1000000 := by omega
      have hiX : i < X.length := by omega
      have c := (hfr.cell i (by omega)).trans (by
        have := veilI_at X s hX i hiX
        rw [show (bcells (veilI X s i))[i]? = some (Value.int .u8 ((X[i]'hiX).toNat : Int)) by simp [bcells, this]])
      have f := hfr.free i (by omega)
      have hidx : ∀ W, (Instr.index 9 (.string (S s)) (.int .i64 (i : Int))).run Tryd.prog W = .ok (.int .u8 ((s[i]'hlt).toNat : Int)) W := fun W => run_index_S W s .i64 i Tryd.underlying9 hlt
      have hx := b_xor (X[i]'hiX) (s[i]'hlt)
      have hset := hfr.drew.set i ((X[i]'hiX) ^^^ (s[i]'hlt))
      rw [veilI_set X s hX i hiX] at hset
      generalize X[i]'hiX = cx at c hx hset
      generalize s[i]'hlt = cs at hidx hx hset
      have HSET := Lib.hid hset
      have HB := Lib.hid hb
      clear hset hb hfr hvl hX2 hX
      go_wp2_with fail
      go_region
      all_goals
        go_wp2_with fail
        go_roundw
        case rel => exact ⟨i + 1, by omega, by go_num, by first | exact HSET.out | (rw [hx]; exact HSET.out), HB.out.drew.setCell hge _⟩
        case measure => simp [intOf]; omega
    · have hie : i = s.length := by omega
      have hii : ¬ (i : Int) < (s.length : Int) := by omega
      rw [hie, HALL.out] at hfr
      have hrl : res.length = X.length := by rw [← HALL.out, veilI_len X s hX]
      have hcb := conv_bytes_text (P := Tryd.prog) Tryd.underlying64 Tryd.underlying5 Tryd.underlying9 hfr.bytes cap
      rw [hrl, hX] at hcb
      clear hfr hvl hrl
      go_wp2_with fail
      go_ret
      exact ⟨rfl, hb⟩
end Go.Proofs.YtlbdpadifhgloaaDoor
