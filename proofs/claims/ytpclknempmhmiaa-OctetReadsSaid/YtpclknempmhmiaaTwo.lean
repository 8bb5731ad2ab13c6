/-
  Only two old blocks have turned. No program stands here.
-/
import Derived.Test.YtpclknempmhmiaaBytes
namespace Go.Proofs.Ytpclknempmhmiaa
open Go.RowKit

structure Two (w w' : World) (g p : Nat) : Prop where
  os : w'.os = w.os
  tape : w'.tape = w.tape
  output : w'.output = w.output
  size : w.heap.size ≤ w'.heap.size
  block : ∀ k, k < w.heap.size → k ≠ g → k ≠ p → w'.heap[k]? = w.heap[k]?
theorem Two.refl (w : World) (g p : Nat) : Two w w g p := ⟨rfl, rfl, rfl, Nat.le_refl _, fun _ _ _ _ => rfl⟩
theorem Two.trans {a b c : World} {g p : Nat} (h : Two a b g p) (k : Two b c g p) : Two a c g p :=
  ⟨k.os.trans h.os, k.tape.trans h.tape, k.output.trans h.output, Nat.le_trans h.size k.size, fun i hi h1 h2 => (k.block i (Nat.lt_of_lt_of_le hi h.size) h1 h2).trans (h.block i hi h1 h2)⟩
theorem Two.left {a b c : World} {g p : Nat} (h : Two a b g p) (k : Only b c g) : Two a c g p :=
  h.trans ⟨k.os, k.tape, k.output, k.size, fun i hi h1 _ => k.block i hi (fun e => h1 (by injection e))⟩
theorem Two.right {a b c : World} {g p : Nat} (h : Two a b g p) (k : Only b c p) : Two a c g p :=
  h.trans ⟨k.os, k.tape, k.output, k.size, fun i hi _ h2 => k.block i hi (fun e => h2 (by injection e))⟩
theorem Two.drew {a b : World} {g p : Nat} (h : Two a b g p) : Two a b.drew g p := ⟨h.os, h.tape, h.output, h.size, h.block⟩
theorem Two.alloc {a b : World} {g p : Nat} (h : Two a b g p) (o : Obj) : Two a (b.alloc o) g p :=
  h.left (Only.of_below ((Below.refl _ b).alloc (Nat.le_refl _) o) g)
theorem Two.below {w0 w w' : World} {g p B : Nat} (h : Two w w' g p) (hb : Below B w0 w) (hB : B ≤ w.heap.size) (hg : B ≤ g) (hp : B ≤ p) : Below B w0 w' :=
  hb.trans ⟨h.os, h.tape, h.output, h.size, fun i hi => h.block i (by omega) (by omega) (by omega)⟩
theorem Only.drew {w w' : World} {g : Nat} (h : Only w w' g) : Only w w'.drew g := ⟨h.os, h.tape, h.output, h.size, h.block⟩
theorem Only.from_drew {w w' : World} {g : Nat} (h : Only w.drew w' g) : Only w w' g := ⟨h.os, h.tape, h.output, h.size, h.block⟩
end Go.Proofs.Ytpclknempmhmiaa
