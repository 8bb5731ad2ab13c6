/-
  The rounds of a block: plain. No program stands here.
-/
import Derived.Test.YtgjknfphmmlcdaaDoorWord
namespace Go.Proofs.YtgjknfphmmlcdaaDoor
open Go.RowKit
set_option linter.unusedVariables false

structure S8 where
  a : UInt32
  b : UInt32
  c : UInt32
  d : UInt32
  e : UInt32
  f : UInt32
  g : UInt32
  h : UInt32
namespace S8
def toList (s : S8) : List UInt32 := [s.a, s.b, s.c, s.d, s.e, s.f, s.g, s.h]
def t1 (s : S8) (k w : UInt32) : UInt32 := s.h + (rotr s.e 6 ^^^ rotr s.e 11 ^^^ rotr s.e 25) + (s.e &&& s.f ^^^ ~~~ s.e &&& s.g) + k + w
def t2 (s : S8) : UInt32 := (rotr s.a 2 ^^^ rotr s.a 13 ^^^ rotr s.a 22) + (s.a &&& s.b ^^^ s.a &&& s.c ^^^ s.b &&& s.c)
def round (s : S8) (k w : UInt32) : S8 := ⟨s.t1 k w + s.t2, s.a, s.b, s.c, s.d + s.t1 k w, s.e, s.f, s.g⟩
/-- Behind the first i rounds. -/
def rounds (s : S8) (ks ws : List UInt32) : Nat → S8
  | 0 => s
  | i + 1 => (rounds s ks ws i).round (ks.getD i 0) (ws.getD i 0)
def add (s t : S8) : S8 := ⟨s.a + t.a, s.b + t.b, s.c + t.c, s.d + t.d, s.e + t.e, s.f + t.f, s.g + t.g, s.h + t.h⟩
end S8
/-- The first k words added. -/
def addk (l m : List UInt32) : Nat → List UInt32
  | 0 => l
  | k + 1 => (addk l m k).set k ((addk l m k).getD k 0 + m.getD k 0)
theorem addk_all (s t : S8) : addk s.toList t.toList 8 = (s.add t).toList := rfl
theorem addk_len (l m : List UInt32) : ∀ k, (addk l m k).length = l.length
  | 0 => rfl
  | k + 1 => by simp [addk, addk_len l m k]
theorem w_not (x : UInt32) : bits .xor .u32 (if IntKind.u32.signed = true then -1 else IntKind.u32.max) (x.toNat : Int) = ((~~~ x).toNat : Int) := by
  have h := w_xor 4294967295 x
  have e : (4294967295 : UInt32) ^^^ x = ~~~ x := by
    apply UInt32.toBitVec_inj.1
    rw [UInt32.toBitVec_xor, UInt32.toBitVec_not]
    exact BitVec.allOnes_xor
  rw [e] at h
  exact h
theorem w_t1 (a b c d e f g h kk ww : UInt32) : ((h.toNat : Int) + bits .xor .u32 (bits .xor .u32 ((rotr e 6).toNat : Int) ((rotr e 11).toNat : Int)) ((rotr e 25).toNat : Int) +
    bits .xor .u32 (bits .and .u32 (e.toNat : Int) (f.toNat : Int)) (bits .and .u32 (bits .xor .u32 (if IntKind.u32.signed = true then -1 else IntKind.u32.max) (e.toNat : Int)) (g.toNat : Int)) + (kk.toNat : Int) + (ww.toNat : Int)) % 4294967296 =
    (((S8.mk a b c d e f g h).t1 kk ww).toNat : Int) := by
  rw [w_not, w_xor, w_xor, w_and, w_and, w_xor, S8.t1]
  simp only [UInt32.toNat_add]
  omega
theorem w_t2 (a b c d e f g h : UInt32) : (bits .xor .u32 (bits .xor .u32 ((rotr a 2).toNat : Int) ((rotr a 13).toNat : Int)) ((rotr a 22).toNat : Int) +
    bits .xor .u32 (bits .xor .u32 (bits .and .u32 (a.toNat : Int) (b.toNat : Int)) (bits .and .u32 (a.toNat : Int) (c.toNat : Int))) (bits .and .u32 (b.toNat : Int) (c.toNat : Int))) % 4294967296 =
    (((S8.mk a b c d e f g h).t2).toNat : Int) := by
  rw [w_xor, w_xor, w_and, w_and, w_and, w_xor, w_xor, w_add, S8.t2]
end Go.Proofs.YtgjknfphmmlcdaaDoor
