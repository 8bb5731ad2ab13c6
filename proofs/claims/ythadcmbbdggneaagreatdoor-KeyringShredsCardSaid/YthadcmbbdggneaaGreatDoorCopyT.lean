/-
  copy from a text into a row. No program stands here.
-/
import Derived.Test.YthadcmbbdggneaaGreatDoorCopy
import Derived.Deep.RegionLaw
namespace Go.Proofs.YthadcmbbdggneaaGreatDoor
open Go.RowKit
set_option linter.unusedVariables false

theorem run_ctext {P : Program} (w : World) (dT sT ty elem : TypeId) (g o dLen dCap : Nat) (l : List UInt8) (cur : List Value) (t : TypeId)
    (hu : P.underlying dT = some (.slice elem)) (hs : (P.info? elem).map (·.size) = some 1) (hg : w.heap[g]? = some (.cells cur.toArray t (0, 0)))
    (n : Nat) (hn : n = Nat.min l.length dLen) (hfit : o + n ≤ cur.length) :
    (Builtin.copy_ #[dT, sT] ty #[.slice (some ⟨g, o, none⟩) dLen dCap, .string (S l)]).run P w = .ok (goInt n) (w.setRow g (splice cur o (bcells (l.take n))).toArray) := by
  have hle : n ≤ l.length := by rw [hn]; exact Nat.min_le_left _ _
  have hlen : (bcells (l.take n)).length = n := by simp [bcells]; omega
  have hone : ∀ v ∈ bcells (l.take n), v.oneCell' = true := by
    intro v hv
    simp only [bcells, List.mem_map] at hv
    obtain ⟨c, _, rfl⟩ := hv
    rfl
  have hst := run_storeCells_at P g o t (bcells (l.take n)) 0 cur.toArray w hg (by rw [hlen]; simpa using hfit) hone
  rw [hlen] at hst
  simp only [Nat.add_zero] at hst
  have hmin : Nat.min (S l).size dLen = n := by rw [hn]; rfl
  have htk : List.take n (List.map (fun b : UInt8 => Value.int IntKind.u8 (b.toNat : Int)) (S l).data.toList) = bcells (l.take n) := by
    simp [bcells, S, List.map_take]
  have hsp : (splice cur o (bcells (l.take n))) = cur.take o ++ bcells (l.take n) ++ cur.drop (o + n) := by rw [splice, hlen, List.append_assoc]
  rw [hsp]
  cases hq : P.info? elem with
  | none => simp [hq] at hs
  | some i =>
    simp [Builtin.copy_, run_underlying hu, Builtin.lenOf, Builtin.firstCells, sizeOf, typeInfo, hq, hmin]
    rw [htk, hst]
    simp [Result.andThen]

/-- .. as one step of a region that draws its order. -/
theorem wpList_ctext {P : Program} (w : World) {ops : Array Oper} {rest : List Oper} {o : Oper} {a : Act} {Q : Exit → Act → World → Prop} (hgd : o.guard = none) (d s : Operand) (dT sT : TypeId)
    (ho : o.op = .call { callee := .builtin .copy, args := #[d, s], argTypes := #[dT, sT] }) (elem : TypeId) (hu : P.underlying dT = some (.slice elem)) (hsz : (P.info? elem).map (·.size) = some 1)
    (g off dLen dCap : Nat) (hd : a.eval d = .slice (some ⟨g, off, none⟩) dLen dCap) (l : List UInt8) (hx : a.eval s = .string (S l))
    (cur : List Value) (t : TypeId) (hg : w.heap[g]? = some (.cells cur.toArray t (0, 0))) (n : Nat) (hn : n = Nat.min l.length dLen) (hfit : off + n ≤ cur.length)
    (h : ∀ w', w' = w.setRow g (splice cur off (bcells (l.take n))).toArray → wpList P ops Q rest (a.put o.dst (goInt n)) w') :
    wpList P ops Q (o :: rest) a w := by
  refine wpList_plain hgd fun K' hK' => ?_
  have hrun := run_ctext (P := P) w dT sT o.type elem g off dLen dCap l cur t hu hsz hg n hn hfit
  unfold Oper.wp
  simp [execOp, ho, resolve, invoke, builtin, hd, hx, hrun, Result.andThen]
  exact hK' _ _ (h _ rfl)
/-- A whole array as a slice. -/
theorem arr_all {P : Program} {t e n : Nat} (ht : P.underlying t = some (.array n e)) (hs : ∀ w : World, (sizeOf e).run P w = .ok 1 w) (h0 : 0 < n) (b : Nat) (w : World) :
    (Instr.sliceAt t (.pointer (some ⟨b, 0, none⟩)) none none none).run P w = .ok (.slice (some ⟨b, 0, none⟩) n n) w := by
  have hl : P.arrayLen t = n := by simp [Program.arrayLen, ht]
  have he : P.elem t = e := by simp [Program.elem, ht]
  have h := run_sliceAt_array_all (P := P) w t ⟨b, 0, none⟩ (by rw [hl, he]; exact ht)
  rw [h, he, hs]
  have hne : n ≠ 0 := by omega
  have hadd : (⟨b, 0, none⟩ : Addr).add 0 = ⟨b, 0, none⟩ := by unfold Addr.add; split <;> simp_all
  simp [Result.andThen, slicedAt, hl, hne, hadd]
end Go.Proofs.YthadcmbbdggneaaGreatDoor
