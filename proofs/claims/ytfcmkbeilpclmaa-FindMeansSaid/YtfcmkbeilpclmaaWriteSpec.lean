/-
  What a writer holds: plain. And the chain of its pieces in memory. No program stands here.
-/
import Derived.Test.YtfcmkbeilpclmaaBytes
import Derived.Test.YtfcmkbeilpclmaaMath
namespace Go.Proofs.Ytfcmkbeilpclmaa
open Go.RowKit
set_option linter.unusedVariables false

namespace Wt
/-- The pieces, the newest first; is it spoiled? -/
abbrev St := List (List UInt8) × Bool
def flat (st : St) : List UInt8 := st.1.reverse.flatten
def raw (s : List UInt8) (st : St) : St := if s = [] then st else (s :: st.1, st.2)
def num (n : Int) (st : St) : St := raw (M.encL n) (if M.encL n = [] then (st.1, true) else st)
def text (s : List UInt8) (st : St) : St := raw s (num s.length st)
def flag (b : Bool) (st : St) : St := raw [if b then 1 else 0] st
def texts (l : List (List UInt8)) (st : St) : St := l.foldl (fun st s => text s st) (num l.length st)

theorem flat_raw (s : List UInt8) (st : St) : flat (raw s st) = flat st ++ s := by
  unfold raw
  split
  · rename_i h; simp [h]
  · simp [flat]
theorem flat_num (n : Int) (st : St) : flat (num n st) = flat st ++ M.encL n := by
  unfold num
  rw [flat_raw]
  split <;> rfl
theorem flat_text (s : List UInt8) (st : St) : flat (text s st) = flat st ++ (M.encL s.length ++ s) := by
  unfold text
  rw [flat_raw, flat_num, List.append_assoc]
theorem flat_flag (b : Bool) (st : St) : flat (flag b st) = flat st ++ [if b then 1 else 0] := flat_raw _ _
theorem flat_foldl : ∀ (l : List (List UInt8)) (st : St), flat (l.foldl (fun st s => text s st) st) = flat st ++ (l.map fun s => M.encL s.length ++ s).flatten := by
  intro l
  induction l with
  | nil => intro st; simp
  | cons s l ih => intro st; rw [List.foldl_cons, ih, flat_text]; simp
theorem flat_texts (l : List (List UInt8)) (st : St) : flat (texts l st) = flat st ++ (M.encL l.length ++ (l.map fun s => M.encL s.length ++ s).flatten) := by
  unfold texts
  rw [flat_foldl, flat_num, List.append_assoc]
theorem bad_raw (s : List UInt8) (st : St) : (raw s st).2 = st.2 := by unfold raw; split <;> rfl
theorem bad_num (n : Int) (st : St) : (num n st).2 = (st.2 || decide (M.encL n = [])) := by
  unfold num
  rw [bad_raw]
  split <;> simp_all
end Wt

/-- The pieces of the writer that lies in block g: their blocks are of type pt, those of their bytes of type bt. -/
def Chain (w : World) (g pt bt : Nat) : Option Addr → List (List UInt8) → Prop
  | P, [] => P = none
  | P, c :: cs => ∃ (q : Nat) (prev A : Option Addr) (cap bq : Nat), P = some ⟨q, 0, none⟩ ∧ q ≠ g ∧ bq ≠ g ∧ Has w q pt #[.pointer prev, .slice A c.length cap] ∧ Bytes w bq A c ∧ c ≠ [] ∧ (∃ bs fr, w.heap[bq]? = some (.cells bs bt fr)) ∧ Chain w g pt bt prev cs

theorem Chain.only {w w' : World} {g k pt bt : Nat} (ho : Only w w' k) : ∀ {P : Option Addr} {cs : List (List UInt8)}, Chain w g pt bt P cs → (k = g ∨ w.heap.size ≤ k) → Chain w' g pt bt P cs
  | P, [], h, _ => h
  | P, c :: cs, ⟨q, prev, A, cap, bq, hP, hq, hbq, hh, hy, hc, ⟨bs, fr, ht⟩, hr⟩, hk => by
    have h1 : q ≠ k := by rcases hk with rfl | hk; exact hq; have := hh.lt; omega
    have h2 : bq ≠ k := by rcases hk with rfl | hk; exact hbq; have := hy.lt hc; omega
    exact ⟨q, prev, A, cap, bq, hP, hq, hbq, ho.has hh h1, ho.bytes hy h2, hc, ⟨bs, fr, (ho.block bq (hy.lt hc) (fun e => h2 (by injection e))).trans ht⟩, Chain.only ho hr hk⟩
theorem Chain.below {w w' : World} {g pt bt B : Nat} (hb : Below B w w') (hB : w.heap.size ≤ B) {P : Option Addr} {cs : List (List UInt8)} (h : Chain w g pt bt P cs) : Chain w' g pt bt P cs :=
  Chain.only (k := w.heap.size + g) ⟨hb.os, hb.tape, hb.output, hb.size, fun i hi _ => hb.block i (by omega)⟩ h (Or.inr (by omega))
/-- A row of another type may grow. -/
theorem Chain.grown {w w' : World} {g pt bt e : Nat} {row : Option Nat} (hw : w.grownBy w' row) (hr : ∀ k, row = some k → ∃ bs fr, w.heap[k]? = some (.cells bs e fr)) (hp : e ≠ pt) (hb : e ≠ bt) : ∀ {P : Option Addr} {cs : List (List UInt8)}, Chain w g pt bt P cs → Chain w' g pt bt P cs
  | P, [], h => h
  | P, c :: cs, ⟨q, prev, A, cap, bq, hP, hq, hbq, hh, hy, hc, ⟨bs, fr, ht⟩, hrest⟩ => by
    have h1 : some q ≠ row := fun e' => by
      obtain ⟨bs', fr', h'⟩ := hr q e'.symm
      rw [Has] at hh
      rw [hh] at h'
      injection h' with h'; injection h' with _ h' _
      exact hp h'.symm
    have h2 : some bq ≠ row := fun e' => by
      obtain ⟨bs', fr', h'⟩ := hr bq e'.symm
      rw [ht] at h'
      injection h' with h'; injection h' with _ h' _
      exact hb h'.symm
    exact ⟨q, prev, A, cap, bq, hP, hq, hbq, (hw.block q hh.lt h1).trans hh, hy.keep (hw.block bq (hy.lt hc) h2), hc, ⟨bs, fr, (hw.block bq (hy.lt hc) h2).trans ht⟩, Chain.grown hw hr hp hb hrest⟩

/-- A row of texts, in one old block. -/
def SRow (w : World) (b off : Nat) (l : List (List UInt8)) : Prop := ∀ i (h : i < l.length), w.cell? ⟨b, off + i, none⟩ = some (.string (S l[i]))
theorem SRow.only {w w' : World} {b off g : Nat} {l : List (List UInt8)} (h : SRow w b off l) (ho : Only w w' g) (hne : b ≠ g) : SRow w' b off l := fun i hi =>
  (World.cell?_of_block (a := ⟨b, off + i, none⟩) (ho.block b (World.block_lt_of_cell? w ⟨b, off + i, none⟩ (h i hi)) (fun e => hne (by injection e)))).trans (h i hi)
end Go.Proofs.Ytfcmkbeilpclmaa
