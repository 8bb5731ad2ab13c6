/-
  The contract of mill's padded.
-/
import Derived.Test.YtphhaiccpllnpaaDoorMillRec
namespace Go.Proofs.YtphhaiccpllnpaaDoor
open Go.RowKit
set_option linter.unusedVariables false

theorem wpList_copy_text {P : Program} (w : World) {ops : Array Oper} {rest : List Oper} {o : Oper} {a : Act} {Q : Exit → Act → World → Prop} (hgd : o.guard = none) (d s : Operand) (dT sT : TypeId)
    (ho : o.op = .call { callee := .builtin .copy, args := #[d, s], argTypes := #[dT, sT] }) (elem : TypeId) (hu : P.underlying dT = some (.slice elem)) (hsz : (P.info? elem).map (·.size) = some 1)
    (g off dLen dCap : Nat) (hd : a.eval d = .slice (some ⟨g, off, none⟩) dLen dCap) (l : List UInt8) (hx : a.eval s = .string (S l))
    (cur : List Value) (t : TypeId) (hg : w.heap[g]? = some (.cells cur.toArray t (0, 0))) (n : Nat) (hn : n = Nat.min l.length dLen) (hfit : off + n ≤ cur.length)
    (h : ∀ w', w' = w.setRow g (splice cur off (bcells (l.take n))).toArray → wpList P ops Q rest (a.put o.dst (goInt n)) w') :
    wpList P ops Q (o :: rest) a w := by
  refine wpList_plain hgd fun K' hK' => ?_
  have hrun := run_copy_text (P := P) w dT sT o.type elem g off dLen dCap l cur t hu hsz hg n hn hfit
  unfold Oper.wp
  simp [execOp, ho, resolve, invoke, builtin, hd, hx, hrun, Result.andThen]
  exact hK' _ _ (h _ rfl)

theorem b_xor (a b : UInt8) : bits .xor .u8 (a.toNat : Int) (b.toNat : Int) = ((a ^^^ b).toNat : Int) := by
  rw [u8_xor_nat _ _ a.toNat_lt b.toNat_lt, UInt8.toNat_xor]

/-- The first i bytes are turned. -/
def padI (z : List UInt8) (x : UInt8) (i : Nat) : List UInt8 := (z.take i).map (· ^^^ x) ++ z.drop i
theorem padI_len (z : List UInt8) (x : UInt8) (i : Nat) : (padI z x i).length = z.length := by simp [padI]; omega
theorem padI_at (z : List UInt8) (x : UInt8) (i : Nat) (h : i < z.length) : (bcells (padI z x i)).toArray[i]? = some (.int .u8 ((z[i]'h).toNat : Int)) := by
  have : (padI z x i)[i]? = some (z[i]'h) := by
    unfold padI
    rw [List.getElem?_append_right (by simp; omega)]
    simp [List.length_take, Nat.min_eq_left (Nat.le_of_lt h), h]
  simp [bcells, this]
theorem padI_set (z : List UInt8) (x : UInt8) (i : Nat) (h : i < z.length) : (bcells (padI z x i)).toArray.setIfInBounds i (.int .u8 (((z[i]'h) ^^^ x).toNat : Int)) = (bcells (padI z x (i + 1))).toArray := by
  apply Array.ext'
  rw [Array.toList_setIfInBounds]
  unfold bcells padI
  simp only [List.map_append]
  rw [List.set_append_right _ _ (by simp; omega)]
  have e1 : (List.map (fun c : UInt8 => Value.int .u8 (c.toNat : Int)) (List.map (· ^^^ x) (z.take i))).length = i := by simp; omega
  rw [e1, Nat.sub_self, List.drop_eq_getElem_cons h, List.map_cons, List.set_cons_zero, List.take_succ_eq_append_getElem h]
  simp only [List.map_append, List.map_cons, List.map_nil, List.append_assoc, List.cons_append, List.nil_append]

theorem zero64 (W : World) : (zeroValue 103).run Tryd.prog W = .ok (.agg (bcells (List.replicate 64 0)).toArray) W := by kernel_rfl
theorem pad_splice' (k : List UInt8) (n : Nat) (h : k.length ≤ n) : splice (bcells (List.replicate n 0)) 0 (bcells k) = bcells (k ++ List.replicate (n - k.length) 0) := by
  unfold splice bcells
  simp [List.drop_replicate]
theorem pad_splice (k : List UInt8) (h : k.length ≤ 64) : splice (bcells (List.replicate 64 0)) 0 (bcells (k.take k.length)) = bcells (k ++ List.replicate (64 - k.length) 0) := by
  rw [List.take_length]
  exact pad_splice' k 64 h

end Go.Proofs.YtphhaiccpllnpaaDoor
