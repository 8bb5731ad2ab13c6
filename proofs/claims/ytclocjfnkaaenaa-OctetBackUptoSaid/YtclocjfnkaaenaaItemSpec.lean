/-
  The statements' items: plain, and as values. No program stands here.
-/
import Derived.Test.YtclocjfnkaaenaaWriteSpec
namespace Go.Proofs.Ytclocjfnkaaenaa
open Go.RowKit
set_option linter.unusedVariables false

structure Item where
  K : Int
  N : Int
  T : List UInt8
  F : Bool
  L : List (List UInt8)

namespace Item
/-- The texts from k on, each with its length ahead. -/
def texts (l : List (List UInt8)) : List UInt8 := (l.map fun s => M.encL s.length ++ s).flatten
def bytes (x : Item) : List UInt8 :=
  if x.K = 0 then M.encL x.N else if x.K = 1 then M.encL x.T.length ++ x.T else if x.K = 2 then [if x.F then 1 else 0] else if x.K = 3 then x.T else M.encL x.L.length ++ texts x.L
def ok (x : Item) : Bool := if x.K = 0 then !(M.encL x.N).isEmpty else true
def lay (x : Item) (st : Wt.St) : Wt.St :=
  if x.K = 0 then Wt.num x.N st else if x.K = 1 then Wt.text x.T st else if x.K = 2 then Wt.flag x.F st else if x.K = 3 then Wt.raw x.T st else Wt.texts x.L st
def bulk (x : Item) : Nat := x.T.length + (x.L.map fun s => s.length + 1).sum

theorem lay_flat (x : Item) (st : Wt.St) : Wt.flat (x.lay st) = Wt.flat st ++ x.bytes := by
  unfold lay bytes
  split
  · exact Wt.flat_num _ _
  · split
    · exact Wt.flat_text _ _
    · split
      · exact Wt.flat_flag _ _
      · split
        · exact Wt.flat_raw _ _
        · exact Wt.flat_texts _ _
theorem bad_text (s : List UInt8) (st : Wt.St) (h : s.length < 72057594037927936) : (Wt.text s st).2 = st.2 := by
  unfold Wt.text
  rw [Wt.bad_raw, Wt.bad_num]
  rw [M.encL, if_pos ⟨by omega, by omega⟩]
  simp
theorem bad_texts : ∀ (l : List (List UInt8)) (st : Wt.St), (∀ s ∈ l, s.length < 72057594037927936) → (l.foldl (fun st s => Wt.text s st) st).2 = st.2 := by
  intro l
  induction l with
  | nil => intro st _; rfl
  | cons s l ih =>
    intro st h
    rw [List.foldl_cons, ih _ (fun t ht => h t (by simp [ht])), bad_text s st (h s (by simp))]
theorem le_sum (l : List (List UInt8)) : ∀ s ∈ l, s.length ≤ (l.map fun s => s.length + 1).sum := by
  induction l with
  | nil => simp
  | cons a l ih =>
    intro s hs
    rw [List.map_cons, List.sum_cons]
    rcases List.mem_cons.1 hs with rfl | hs
    · omega
    · have := ih s hs; omega
theorem length_le_sum (l : List (List UInt8)) : l.length ≤ (l.map fun s => s.length + 1).sum := by
  induction l with
  | nil => simp
  | cons a l ih => rw [List.map_cons, List.sum_cons, List.length_cons]; omega
theorem sum8_le (l : List (List UInt8)) : (l.map fun s => s.length + 8).sum ≤ 8 * (l.map fun s => s.length + 1).sum := by
  induction l with
  | nil => simp
  | cons a l ih => rw [List.map_cons, List.sum_cons, List.map_cons, List.sum_cons]; omega
theorem texts_len (l : List (List UInt8)) : (texts l).length ≤ (l.map fun s => s.length + 8).sum := by
  induction l with
  | nil => simp [texts]
  | cons a l ih =>
    have h1 : texts (a :: l) = (M.encL a.length ++ a) ++ texts l := by simp [texts]
    have := M.encL_len a.length
    rw [h1, List.length_append, List.length_append, List.map_cons, List.sum_cons]; omega
theorem lay_bad (x : Item) (st : Wt.St) (h : x.bulk ≤ 1048576) : (x.lay st).2 = (st.2 || !x.ok) := by
  unfold bulk at h
  unfold lay ok
  split
  · rw [Wt.bad_num]; cases hh : M.encL x.N <;> simp
  · split
    · rw [bad_text _ _ (by omega)]; simp
    · split
      · show (Wt.raw _ st).2 = _; rw [Wt.bad_raw]; simp
      · split
        · rw [Wt.bad_raw]; simp
        · have h1 := le_sum x.L
          have h2 := length_le_sum x.L
          unfold Wt.texts
          rw [bad_texts _ _ (fun s hs => by have := h1 s hs; omega), Wt.bad_num, M.encL, if_pos ⟨by omega, by omega⟩]
          simp
theorem bytes_len (x : Item) (h : x.bulk ≤ 1048576) : x.bytes.length ≤ 16777216 := by
  unfold bulk at h
  unfold bytes
  have h0 := M.encL_len x.N
  have h1 := M.encL_len x.T.length
  have h2 := M.encL_len x.L.length
  have h3 := texts_len x.L
  have h4 := sum8_le x.L
  split
  · omega
  · split
    · rw [List.length_append]; omega
    · split
      · simp
      · split
        · omega
        · rw [List.length_append]; omega
end Item

/-- A slice that reads as texts, in an old block. -/
def SSl (w : World) (B : Nat) (A : Option Addr) (l : List (List UInt8)) : Prop := l ≠ [] → ∃ b off, A = some ⟨b, off, none⟩ ∧ b < B ∧ SRow w b off l
theorem SSl.below {w w' : World} {B : Nat} {A : Option Addr} {l : List (List UInt8)} (h : SSl w B A l) (hb : Below B w w') : SSl w' B A l := fun hl => by
  obtain ⟨b, off, hA, hlt, hr⟩ := h hl
  exact ⟨b, off, hA, hlt, fun i hi => (hb.cell (p := ⟨b, off + i, none⟩) hlt).trans (hr i hi)⟩
/-- A value that reads as an item. -/
def ItemV (w : World) (B : Nat) (x : Item) (v : Value) : Prop :=
  ∃ A cap, v = .agg #[.int .i64 x.K, .int .i64 x.N, .string (S x.T), .bool x.F, .slice A x.L.length cap] ∧ SSl w B A x.L
theorem ItemV.below {w w' : World} {B : Nat} {x : Item} {v : Value} (h : ItemV w B x v) (hb : Below B w w') : ItemV w' B x v := by
  obtain ⟨A, cap, rfl, hs⟩ := h
  exact ⟨A, cap, rfl, hs.below hb⟩
end Go.Proofs.Ytclocjfnkaaenaa
