/-
  The contract of mill's padded.
-/
import Derived.Test.YtlbdpadifhgloaaDoorMillRec
namespace Go.Proofs.YtlbdpadifhgloaaDoor
open Go.RowKit
set_option linter.unusedVariables false

theorem wpList_copy_text {P : Program} (w : World) {ops : Array Oper} {rest : List Oper} {o : Oper} {a : Act} {Q : Exit → Act → World → Prop} (hgd : o.guard = none) (d s : Operand) (dT sT : TypeId)
    (ho : o.op = .call { callee := .builtin .copy, args := #[d, s], argTypes := #[dT, sT] }) (elem : TypeId) (hu : P.underlying dT = some (.slice elem)) (hsz : (P.info? elem).map (·.size) = some 1)
    (g off dLen dCap : Nat) (hd : a.eval d = .slice (some ⟨g, off, none⟩) dLen dCap) (l : List UInt8) (hx : a.eval s = .string (S l))
    (cur : List Value) (t : TypeId) (hg : w.heap[g]? = some (.cells cur.toArray t (0, 0))) (n : Nat) (hn : n = Nat.min l.length dLen) (hfit : off + n ≤ cur.length)
    (h : ∀ w', w' = w.setRow g (splice cur off (bcells (l.take n))).toArray → wpList P ops Q rest (a.put o.dst (goInt n)) w') :
    wpList P ops Q (o :: rest) a w := by
  refine wpList_plain hgd fun K' hK' => ?_
  have hrun := run_copy_text (P := P) w dT sT o.type elem g off dLen dCap l cur t hu hsz hg n hn hfit
  unfold Oper.wp
  simp [execOp, ho, resolve, invoke, builtin, hd, hx, hrun, Result.andThen]
  exact hK' _ _ (h _ rfl)

theorem b_xor (a b : UInt8) : bits .xor .u8 (a.toNat : Int) (b.toNat : Int) = ((a ^^^ b).toNat : Int) := by
  rw [u8_xor_nat _ _ a.toNat_lt b.toNat_lt, UInt8.toNat_xor]

/-- The first i bytes are turned. -/
def padI (z : List UInt8) (x : UInt8) (i : Nat) : List UInt8 := (z.take i).map (· ^^^ x) ++ z.drop i
theorem padI_len (z : List UInt8) (x : UInt8) (i : Nat) : (padI z x i).length = z.length := by simp [padI]; omega
theorem padI_at (z : List UInt8) (x : UInt8) (i : Nat) (h : i < z.length) : (bcells (padI z x i)).toArray[i]? = some (.int .u8 ((z[i]'h).toNat : Int)) := by
  have : (padI z x i)[i]? = some (z[i]'h) := by
    unfold padI
    rw [List.getElem?_append_right (by simp; omega)]
    simp [List.length_take, Nat.min_eq_left (Nat.le_of_lt h), h]
  simp [bcells, this]
theorem padI_set (z : List UInt8) (x : UInt8) (i : Nat) (h : i < z.length) : (bcells (padI z x i)).toArray.setIfInBounds i (.int .u8 (((z[i]'h) ^^^ x).toNat : Int)) = (bcells (padI z x (i + 1))).toArray := by
  apply Array.ext'
  rw [Array.toList_setIfInBounds]
  unfold bcells padI
  simp only [List.map_append]
  rw [List.set_append_right _ _ (by simp; omega)]
  have e1 : (List.map (fun c : UInt8 => Value.int .u8 (c.toNat : Int)) (List.map (· ^^^ x) (z.take i))).length = i := by simp; omega
  rw [e1, Nat.sub_self, List.drop_eq_getElem_cons h, List.map_cons, List.set_cons_zero, List.take_succ_eq_append_getElem h]
  simp only [List.map_append, List.map_cons, List.map_nil, List.append_assoc, List.cons_append, List.nil_append]

theorem zero64 (W : World) : (zeroValue 83).run Tryd.prog W = .ok (.agg (bcells (List.replicate 64 0)).toArray) W := by kernel_rfl
theorem pad_splice' (k : List UInt8) (n : Nat) (h : k.length ≤ n) : splice (bcells (List.replicate n 0)) 0 (bcells k) = bcells (k ++ List.replicate (n - k.length) 0) := by
  unfold splice bcells
  simp [List.drop_replicate]
theorem pad_splice (k : List UInt8) (h : k.length ≤ 64) : splice (bcells (List.replicate 64 0)) 0 (bcells (k.take k.length)) = bcells (k ++ List.replicate (64 - k.length) 0) := by
  rw [List.take_length]
  exact pad_splice' k 64 h

set_option maxRecDepth 100000 in
set_option maxHeartbeats 2000000 in
theorem padded_any (k : List UInt8) (x : UInt8) (w : World) (hk : k.length ≤ 64) :
    Calls Tryd.prog 40 #[.string (S k), .int .u8 (x.toNat : Int)] w (TextPost w (Mill.pad k x)) := by
  have hz := zero64
  have hpad : Mill.pad k x = (padI (k ++ List.replicate (64 - k.length) 0) x 64) := by
    have hl : (k ++ List.replicate (64 - k.length) 0).length = 64 := by simp; omega
    unfold padI
    rw [List.take_of_length_le (by omega), List.drop_of_length_le (by omega), List.append_nil]; rfl
  rw [hpad]
  have hsp := pad_splice k hk
  have hzl : (k ++ List.replicate (64 - k.length) 0).length = 64 := by simp; omega
  generalize k ++ List.replicate (64 - k.length) 0 = z at hsp hzl ⊢
  have HSP := Lib.hid hsp; clear hsp hpad
  have HZ := Lib.hid hzl; clear hzl
  generalize hcur : bcells (List.replicate 64 0) = cur at hz HSP
  have hcl : cur.length = 64 := by rw [← hcur]; simp [bcells]
  have HCL := Lib.hid hcl; clear hcl hcur
  go_enter Tryd.func40, Tryd.ntmps40
  go_upto_region 2 with (fail)
  clear hz
  generalize hW : World.alloc w _ = W
  have hb : Below w.heap.size w W := by rw [← hW]; exact (Below.refl _ _).alloc (Nat.le_refl _) _
  have hh : W.heap[w.heap.size]? = some (.cells cur.toArray 83 (0, 0)) := by rw [← hW]; exact heap_alloc_new w _
  have hmin : k.length = Nat.min k.length 64 := (Nat.min_eq_left hk).symm
  clear hW
  go_upto_region 3 with (refine wpList_copy_text _ rfl (.tmp 7) (.tmp 8) 64 9 rfl 5 Tryd.underlying64 u8size w.heap.size 0 64 64 rfl k rfl cur 83 hh k.length hmin (by rw [HCL.out]; omega) ?_; intro W2 hW2)
  have hb2 : Below w.heap.size w W2 := by rw [hW2]; exact below_setRow hb (Nat.le_refl _) _
  have hh2 : Has W2 w.heap.size 83 (bcells (padI z x 0)).toArray := by
    rw [hW2, HSP.out]
    exact setRow_heap _ _ _ _ _ _ hh
  have hlt2 : w.heap.size < W2.heap.size := hh2.lt
  clear hW2 hh hb hmin
  go_wp2_with fail
  go_loopw [6, 10] (fun v6 v10 wr => ∃ i : Nat, i ≤ 64 ∧ v10 = .int .i64 i ∧ Has wr w.heap.size 83 (bcells (padI z x i)).toArray ∧ Below w.heap.size w wr) (fun _ v10 _ => 64 - (intOf v10).toNat)
  case atStart => exact ⟨0, Nat.zero_le _, rfl, hh2, hb2⟩
  case round =>
    obtain ⟨i, hi, rfl, hhi, hbi⟩ := hrel
    by_cases hlt : i < 64
    · have hi0 : (0 : Int) ≤ (i : Int) := by omega
      have hii : (i : Int) < 64 := by omega
      have hiz : i < z.length := by rw [HZ.out]; exact hlt
      have hc : wr.cell? ⟨w.heap.size, i, none⟩ = some (.int .u8 ((z[i]'hiz).toNat : Int)) := (hhi.cell i).trans (padI_at z x i hiz)
      have hf : wr.frozen? ⟨w.heap.size, i, none⟩ = false := hhi.free i
      have hset := padI_set z x i hiz
      have hnew := hhi.set i (.int .u8 (((z[i]'hiz) ^^^ x).toNat : Int))
      rw [hset] at hnew
      have hx := b_xor (z[i]'hiz) x
      generalize (z[i]'hiz) = c at hc hnew hx
      have HN := Lib.hid hnew; clear hnew hset hhi
      go_wp2_with fail
      go_roundw
      case rel =>
        refine ⟨i + 1, by omega, by go_num, ?_, ?_⟩
        · first | exact HN.out | (rw [hx]; exact HN.out)
        · exact hbi.setCell (Nat.le_refl _) _
      case measure => simp [intOf]; omega
    · have hie : i = 64 := by omega
      have hii : ¬ (i : Int) < 64 := by omega
      subst hie
      have hL : (padI z x 64).length = 64 := by rw [padI_len, HZ.out]
      have hcv : (convert 64 9 (.slice (some ⟨w.heap.size, 0, none⟩) 64 64)).run Tryd.prog wr = .ok (.string (S (padI z x 64))) wr := conv_text Tryd.underlying64 Tryd.underlying5 Tryd.underlying9 (padI z x 64) hL (fun i _ => by
        have := hhi.cell (0 + i)
        rw [this]; simp)
      generalize hres : padI z x 64 = res at hcv
      have HRES := Lib.hid hres; clear hres
      clear hhi hL
      go_wp2_with fail
      go_ret
      rw [HRES.out]
      exact ⟨rfl, hbi⟩
end Go.Proofs.YtlbdpadifhgloaaDoor
