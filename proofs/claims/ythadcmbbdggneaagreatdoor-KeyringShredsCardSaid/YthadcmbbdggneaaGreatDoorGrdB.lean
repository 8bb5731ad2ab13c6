/-
  What the guard asks of package strings: Repeat of a byte 0, Trim of bytes 0, and a Builder that a call has made itself.
-/
import Derived.Test.YthadcmbbdggneaaGreatDoorStrLays
import Derived.Test.YthadcmbbdggneaaGreatDoorGrdNum
namespace Go.Proofs.YthadcmbbdggneaaGreatDoor
open Go.RowKit
set_option linter.unusedVariables false

theorem bxRepeat : Builder.Extra Tryz.prog lRepeat_ren := { sizeBuilder := by kernel_rfl, liesBuilder := by kernel_rfl, t5 := Tryz.underlying5, a5 := Tryz.isAgg5, z5 := Tryz.sizeOf5, v5 := Tryz.zeroValue5, infoByte := by kernel_rfl, cellsByte := by kernel_rfl, sizeByte := by kernel_rfl, neB5 := by decide }
/-- WriteByte is not among what Repeat reaches: its number beside the others. -/
def lWb_ren : Go.Shelf.Ren := ⟨fun | 167 => 65 | n => lRepeat_ren.f n, lRepeat_ren.t, lRepeat_ren.g⟩
theorem lWb : Go.Proofs.Lays.n167 Tryz.prog lWb_ren := {
  f167 := Tryz.func65.trans (congrArg some (by kernel_rfl))
  f240 := lRepeat.f240.trans (congrArg some (by kernel_rfl))
  f276 := lRepeat.f276.trans (congrArg some (by kernel_rfl))
  mixed := lRepeat.mixed
  t0 := lRepeat.t0
  a0 := lRepeat.a0
  z0 := lRepeat.z0
  v0 := lRepeat.v0
  t4 := lRepeat.t4
  a4 := lRepeat.a4
  z4 := lRepeat.z4
  v4 := lRepeat.v4
  t5 := lRepeat.t5
  a5 := lRepeat.a5
  z5 := lRepeat.z5
  v5 := lRepeat.v5
  t9 := lRepeat.t9
  a9 := lRepeat.a9
  z9 := lRepeat.z9
  v9 := lRepeat.v9
  t20 := lRepeat.t20
  a20 := lRepeat.a20
  z20 := lRepeat.z20
  v20 := lRepeat.v20
  t37 := lRepeat.t37
  a37 := lRepeat.a37
  z37 := lRepeat.z37
  v37 := lRepeat.v37
  t70 := lRepeat.t70
  a70 := lRepeat.a70
  z70 := lRepeat.z70
  v70 := lRepeat.v70
  t72 := lRepeat.t72
  a72 := lRepeat.a72
  z72 := lRepeat.z72
  v72 := lRepeat.v72
  t75 := lRepeat.t75
  a75 := lRepeat.a75
  z75 := lRepeat.z75
  v75 := lRepeat.v75
  t164 := lRepeat.t164
  a164 := lRepeat.a164
  z164 := lRepeat.z164
  v164 := lRepeat.v164 }
theorem bxWb : Builder.Extra Tryz.prog lWb_ren := { sizeBuilder := by kernel_rfl, liesBuilder := by kernel_rfl, t5 := Tryz.underlying5, a5 := Tryz.isAgg5, z5 := Tryz.sizeOf5, v5 := Tryz.zeroValue5, infoByte := by kernel_rfl, cellsByte := by kernel_rfl, sizeByte := by kernel_rfl, neB5 := by decide }

theorem zrep_any (n : Nat) (hn : n ≤ 64) (w : World) :
    Calls Tryz.prog 55 #[.string (S [0]), .int .i64 (n : Int)] w fun e w' => e = .returned (.string (S (List.replicate n 0))) ∧ Below w.heap.size w w' := by
  have h := Any.strings_Repeat lRepeat bxRepeat (S [0]) n w (by omega) (by rw [S_size]; simp; omega)
  have e : Lib.repeatL (S [0]).data.toList n = List.replicate n 0 := by
    have := Lib.repeatL_replicate 0 1 n
    rw [Nat.mul_one] at this
    exact this
  rw [e] at h
  exact h
theorem trim0_any (l : List UInt8) (hl : l.length ≤ 1000000000000) (w : World) :
    Calls Tryz.prog 91 #[.string (S l), .string (S [0])] w fun e w' => e = .returned (.string (S (Lib.trimB l 0))) ∧ (w' = w ∨ w' = w.drew) :=
  Any.strings_Trim_one lTrim (S l) 0 (by decide) w (by rw [S_size]; omega)
theorem all_drop {l : List UInt8} {c : UInt8} : l.dropWhile (· == c) = [] ↔ ∀ x ∈ l, x = c := by
  induction l with
  | nil => simp
  | cons a r ih =>
    rw [List.dropWhile_cons]
    by_cases ha : a = c
    · rw [if_pos (by simpa using ha), ih]
      simp [ha]
    · rw [if_neg (by simpa using ha)]
      simp [ha]
theorem trim0_nil (l : List UInt8) : Lib.trimB l 0 = [] ↔ l = List.replicate l.length 0 := by
  unfold Lib.trimB Lib.trimLeftB
  rw [all_drop]
  constructor
  · intro h
    refine List.eq_replicate_iff.2 ⟨rfl, ?_⟩
    by_cases he : Lib.trimRightB l 0 = []
    · unfold Lib.trimRightB at he
      rw [List.reverse_eq_nil_iff, all_drop] at he
      intro b hb
      exact he b (List.mem_reverse.2 hb)
    · exfalso
      unfold Lib.trimRightB at he h
      replace he : l.reverse.dropWhile (· == (0 : UInt8)) ≠ [] := fun e => he (by rw [e]; rfl)
      have h1 := List.head_dropWhile_not (p := (· == (0 : UInt8))) (l := l.reverse) he
      have h2 := h _ (List.mem_reverse.2 (List.head_mem he))
      rw [h2] at h1
      simp at h1
  · intro h b hb
    have hm : b ∈ l := by
      unfold Lib.trimRightB at hb
      have := (List.dropWhile_sublist _).subset (List.mem_reverse.1 hb)
      exact List.mem_reverse.1 this
    rw [h] at hm
    exact (List.mem_replicate.1 hm).2
theorem trim0_is (l : List UInt8) : (Lib.trimB l 0 == ([] : List UInt8)) = isZ l := by
  unfold isZ
  rw [Bool.eq_iff_iff, beq_iff_eq, decide_eq_true_iff]
  exact trim0_nil l

/-- A Builder that was made behind w0, in block b, holds the bytes l. -/
def BldS (w0 : World) (b : Nat) (l : List UInt8) (W : World) : Prop := Lib.IsBuilderF 103 5 w0.heap.size b (Lib.byteCells l) W ∧ Below w0.heap.size w0 W
theorem BldS.after {w0 W W' : World} {b : Nat} {l : List UInt8} (h : BldS w0 b l W) (hb : Below W.heap.size W W') : BldS w0 b l W' := by
  refine ⟨?_, h.2.trans (hb.mono h.2.size)⟩
  have hg : W.grownBy W' none := ⟨hb.os, hb.tape, hb.output, hb.size, fun i hi _ => hb.block i hi⟩
  have go : ∀ p, Lib.BuilderAtF 103 5 w0.heap.size b p (Lib.byteCells l) W → Lib.BuilderAtF 103 5 w0.heap.size b p (Lib.byteCells l) W' := by
    rintro p ⟨hB, v, hc, hown, hne⟩
    refine ⟨hB, v, ?_, hown.kept hg ?_, hne⟩
    · rw [hb.block b (by rcases Nat.lt_or_ge b W.heap.size with h' | h'; exact h'; rw [Array.getElem?_eq_none h'] at hc; cases hc)]
      exact hc
    · cases hv : v.ownBlock with
      | none => exact Or.inl rfl
      | some k => right; intro e; cases e
  exact h.1.elim (fun x => Or.inl (go _ x)) (fun x => Or.inr (go _ x))
theorem BldS.new (w0 : World) : BldS w0 w0.heap.size [] (w0.alloc (.cells #[.pointer none, .slice none 0 0] 103)) := by
  refine ⟨Or.inl ⟨Nat.le_refl _, .slice none 0 0, heap_alloc_new w0 _, ?_, ?_⟩, (Below.refl _ w0).alloc (Nat.le_refl _) _⟩
  · exact ⟨rfl, Or.inl ⟨rfl, rfl⟩⟩
  · simp [Value.ownBlock]
theorem wstr_any {w0 W : World} {b : Nat} {l : List UInt8} (h : BldS w0 b l W) (s : List UInt8) (hl : l.length + s.length ≤ 1000000) :
    Calls Tryz.prog 63 #[.pointer (some ⟨b, 0, none⟩), .string (S s)] W fun e w' => e = .returned (.tuple #[.int .i64 (s.length : Int), .nilIface]) ∧ BldS w0 b (l ++ s) w' := by
  refine (Any.Builder_WriteString_k { lRepeat with } bxRepeat w0.heap.size b (Lib.byteCells l) (S s) W h.1 (by rw [Lib.byteCells_length, S_size]; omega) h.2.size).mono ?_
  rintro e w' ⟨rfl, h1, h2, _⟩
  refine ⟨rfl, Or.inr ?_, h.2.trans h2⟩
  rw [Lib.byteCells_append]
  exact h1
theorem wbyte_any {w0 W : World} {b : Nat} {l : List UInt8} (h : BldS w0 b l W) (c : UInt8) (hl : l.length ≤ 1000000) :
    Calls Tryz.prog 65 #[.pointer (some ⟨b, 0, none⟩), .int .u8 (c.toNat : Int)] W fun e w' => e = .returned .nilIface ∧ BldS w0 b (l ++ [c]) w' := by
  refine (Any.Builder_WriteByte_k lWb bxWb w0.heap.size b (Lib.byteCells l) (c.toNat : Int) W h.1 (by rw [Lib.byteCells_length]; omega) h.2.size).mono ?_
  rintro e w' ⟨rfl, h1, h2, _⟩
  refine ⟨rfl, Or.inr ?_, h.2.trans h2⟩
  rw [Lib.byteCells_append]
  exact h1
theorem bstr_any {w0 W : World} {b : Nat} {l : List UInt8} (h : BldS w0 b l W) :
    Calls Tryz.prog 66 #[.pointer (some ⟨b, 0, none⟩)] W fun e w' => e = .returned (.string (S l)) ∧ Below w0.heap.size w0 w' := by
  refine (Any.Builder_String_any_k { lRepeat with } bxRepeat w0.heap.size b l W h.1 h.2.size).mono ?_
  rintro e w' ⟨rfl, _, h2, _⟩
  exact ⟨rfl, h.2.trans h2⟩
end Go.Proofs.YthadcmbbdggneaaGreatDoor
