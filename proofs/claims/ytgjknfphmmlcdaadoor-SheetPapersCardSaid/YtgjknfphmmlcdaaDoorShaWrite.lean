/-
  The contract of a state's Write.
-/
import Derived.Test.YtgjknfphmmlcdaaDoorShaNew
import Derived.Deep.MidRow
import Derived.Deep.RegionWith
namespace Go.Proofs.YtgjknfphmmlcdaaDoor
open Go.RowKit
set_option linter.unusedVariables false

/-- 'copy' from a text into a row: as many bytes as the shorter of the two has. -/
theorem run_copy_text {P : Program} (w : World) (dT sT ty elem : TypeId) (g o dLen dCap : Nat) (l : List UInt8) (cur : List Value) (t : TypeId)
    (hu : P.underlying dT = some (.slice elem)) (hs : (P.info? elem).map (·.size) = some 1) (hg : w.heap[g]? = some (.cells cur.toArray t (0, 0)))
    (n : Nat) (hn : n = Nat.min l.length dLen) (hfit : o + n ≤ cur.length) :
    (Builtin.copy_ #[dT, sT] ty #[.slice (some ⟨g, o, none⟩) dLen dCap, .string (S l)]).run P w = .ok (goInt n) (w.setRow g (splice cur o (bcells (l.take n))).toArray) := by
  have hle : n ≤ l.length := by rw [hn]; exact Nat.min_le_left _ _
  have hlen : (bcells (l.take n)).length = n := by simp [bcells]; omega
  have hone : ∀ v ∈ bcells (l.take n), v.oneCell' = true := by
    intro v hv
    simp only [bcells, List.mem_map] at hv
    obtain ⟨c, _, rfl⟩ := hv
    rfl
  have hst := run_storeCells_at P g o t (bcells (l.take n)) 0 cur.toArray w hg (by rw [hlen]; simpa using hfit) hone
  rw [hlen] at hst
  simp only [Nat.add_zero] at hst
  have hmin : Nat.min (S l).size dLen = n := by rw [hn]; rfl
  have htk : List.take n (List.map (fun b : UInt8 => Value.int IntKind.u8 (b.toNat : Int)) (S l).data.toList) = bcells (l.take n) := by
    simp [bcells, S, List.map_take]
  have hsp : (splice cur o (bcells (l.take n))) = cur.take o ++ bcells (l.take n) ++ cur.drop (o + n) := by rw [splice, hlen, List.append_assoc]
  rw [hsp]
  cases hq : P.info? elem with
  | none => simp [hq] at hs
  | some i =>
    simp [Builtin.copy_, run_underlying hu, Builtin.lenOf, Builtin.firstCells, sizeOf, typeInfo, hq, hmin]
    rw [htk, hst]
    simp [Result.andThen]

/-- .. as one step of a region that draws its order. -/
theorem step_copy_text {P : Program} {ops : Array Oper} {o : Oper} {a : Act} {w : World} {K : Act → World → Prop} {Q : Exit → Act → World → Prop} {E : Prop} (hgd : o.guard = none) (d s : Operand) (dT sT : TypeId)
    (ho : o.op = .call { callee := .builtin .copy, args := #[d, s], argTypes := #[dT, sT] }) (elem : TypeId) (hu : P.underlying dT = some (.slice elem)) (hsz : (P.info? elem).map (·.size) = some 1)
    (g off dLen dCap : Nat) (hd : a.eval d = .slice (some ⟨g, off, none⟩) dLen dCap) (l : List UInt8) (hx : a.eval s = .string (S l))
    (cur : List Value) (t : TypeId) (hg : w.heap[g]? = some (.cells cur.toArray t (0, 0))) (n : Nat) (hn : n = Nat.min l.length dLen) (hfit : off + n ≤ cur.length)
    (h : ∀ w', Hid (w' = w.setRow g (splice cur off (bcells (l.take n))).toArray) → K (a.put o.dst (goInt n)) w') :
    if Region.wanted o (yielded ops a.tmps) = true then Oper.wp P o a w K Q else E := by
  have hw : Region.wanted o (yielded ops a.tmps) = true := by simp [Region.wanted, hgd]
  rw [if_pos hw]
  have hrun := run_copy_text (P := P) w dT sT o.type elem g off dLen dCap l cur t hu hsz hg n hn hfit
  unfold Oper.wp
  simp [execOp, ho, resolve, invoke, builtin, hd, hx, hrun, Result.andThen]
  exact h _ (Lib.hid rfl)

theorem u8size : (Tryd.prog.info? 5).map (·.size) = some 1 := by kernel_rfl
/-- The cells of a block that a copy has passed over. -/
theorem stc_splice (s : S8) (blk : List UInt8) (n r : Nat) (x : List UInt8) (hb : blk.length = 64) (hr : r + x.length ≤ 64) :
    splice (stc s blk n) (8 + r) (bcells x) = stc s (blk.take r ++ (x ++ blk.drop (r + x.length))) n := by
  have h8 : (s.toList.map fun x => Value.int .u32 (x.toNat : Int)).length = 8 := by simp [S8.toList]
  have hx : (bcells x).length = x.length := by simp [bcells]
  have hbl : (bcells blk).length = 64 := by simp [bcells, hb]
  unfold splice stc
  rw [hx]
  generalize (s.toList.map fun x => Value.int .u32 (x.toNat : Int)) = A at h8 ⊢
  rw [List.take_append, h8, List.drop_append, h8]
  have e1 : A.take (8 + r) = A := List.take_of_length_le (by omega)
  have e2 : A.drop (8 + r + x.length) = [] := List.drop_eq_nil_of_le (by omega)
  rw [e1, e2, List.nil_append, List.append_assoc]
  congr 1
  rw [show 8 + r - 8 = r by omega, show 8 + r + x.length - 8 = r + x.length by omega]
  rw [List.take_append_of_le_length (by omega), List.drop_append_of_le_length (by omega)]
  simp [bcells, List.map_take, List.map_drop]

theorem stc_size (s : S8) (blk : List UInt8) (n m : Nat) (hb : blk.length = 64) : (stc s blk n).toArray.setIfInBounds 72 (.int .i64 (m : Int)) = (stc s blk m).toArray := by
  have h8 : (s.toList.map fun x => Value.int .u32 (x.toNat : Int)).length = 8 := by simp [S8.toList]
  have hbl : (bcells blk).length = 64 := by simp [bcells, hb]
  apply Array.ext'
  rw [Array.toList_setIfInBounds]
  unfold stc
  generalize (s.toList.map fun x => Value.int .u32 (x.toNat : Int)) = A at h8 ⊢
  rw [List.set_append_right _ _ (by omega), h8, List.set_append_right _ _ (by omega), hbl]
  rfl

theorem Has.setCells {g : Nat} {T : TypeId} : ∀ (vs : List Value) (o : Nat) (cs : List Value) (w : World), Has w g T cs.toArray → o + vs.length ≤ cs.length → Has (w.setCells g o vs) g T (splice cs o vs).toArray
  | [], o, cs, w, h, _ => by simpa [splice, World.setCells] using h
  | v :: vs, o, cs, w, h, hl => by
    rw [World.setCells]
    rw [List.length_cons] at hl
    have h1 := h.set o v
    have h2 : (cs.toArray.setIfInBounds o v) = (cs.set o v).toArray := by simp
    rw [h2] at h1
    have h3 := Has.setCells vs (o + 1) (cs.set o v) _ h1 (by rw [List.length_set]; omega)
    have h4 : splice (cs.set o v) (o + 1) vs = splice cs o (v :: vs) := by
      unfold splice
      rw [List.take_set, List.drop_set_of_lt (by omega), List.length_cons, List.take_succ_eq_append_getElem (by omega), List.set_append_right _ _ (by rw [List.length_take]; omega), List.length_take]
      rw [show o - min o cs.length = 0 by omega]
      simp [Nat.add_assoc, Nat.add_comm 1]
    rw [h4] at h3
    exact h3
theorem Only.setCells {g : Nat} : ∀ (vs : List Value) (o : Nat) (w : World), Only w (w.setCells g o vs) g
  | [], o, w => Only.refl _ _
  | v :: vs, o, w => (Only.set w g o v).trans (Only.setCells vs (o + 1) _)
theorem stc_words (s s' : S8) (blk : List UInt8) (n : Nat) : splice (stc s blk n) 0 (wcells s'.toList).toList = stc s' blk n := by
  unfold splice stc
  have h1 : (wcells s'.toList).toList = s'.toList.map fun x => Value.int .u32 (x.toNat : Int) := by simp [wcells]
  have h8 : (s.toList.map fun x => Value.int .u32 (x.toNat : Int)).length = 8 := by simp [S8.toList]
  have h8' : (s'.toList.map fun x => Value.int .u32 (x.toNat : Int)).length = 8 := by simp [S8.toList]
  rw [h1, h8', List.take_zero, List.nil_append, Nat.zero_add, List.drop_append_of_le_length (by omega), List.drop_of_length_le (by omega), List.nil_append]
def S8.vals (s : S8) : Array Value := #[.int .u32 (s.a.toNat : Int), .int .u32 (s.b.toNat : Int), .int .u32 (s.c.toNat : Int), .int .u32 (s.d.toNat : Int), .int .u32 (s.e.toNat : Int), .int .u32 (s.f.toNat : Int), .int .u32 (s.g.toNat : Int), .int .u32 (s.h.toNat : Int)]
theorem S8.vals_eq (s : S8) : wcells s.toList = s.vals := rfl
theorem stc_set8 (s x : S8) (blk : List UInt8) (n : Nat) :
    ((((((((stc s blk n).toArray.setIfInBounds 0 (.int .u32 (x.a.toNat : Int))).setIfInBounds 1 (.int .u32 (x.b.toNat : Int))).setIfInBounds 2 (.int .u32 (x.c.toNat : Int))).setIfInBounds 3 (.int .u32 (x.d.toNat : Int))).setIfInBounds 4 (.int .u32 (x.e.toNat : Int))).setIfInBounds 5 (.int .u32 (x.f.toNat : Int))).setIfInBounds 6 (.int .u32 (x.g.toNat : Int))).setIfInBounds 7 (.int .u32 (x.h.toNat : Int)) = (stc x blk n).toArray := by
  apply Array.ext'
  simp [stc, S8.toList]
theorem stc_words8 (s : S8) (blk : List UInt8) (n : Nat) {w : World} {g : Nat} {T : TypeId} (h : Has w g T (stc s blk n).toArray) :
    w.cell? ⟨g, 0, none⟩ = some (.int .u32 (s.a.toNat : Int)) ∧ w.cell? ⟨g, 1, none⟩ = some (.int .u32 (s.b.toNat : Int)) ∧ w.cell? ⟨g, 2, none⟩ = some (.int .u32 (s.c.toNat : Int)) ∧ w.cell? ⟨g, 3, none⟩ = some (.int .u32 (s.d.toNat : Int)) ∧
    w.cell? ⟨g, 4, none⟩ = some (.int .u32 (s.e.toNat : Int)) ∧ w.cell? ⟨g, 5, none⟩ = some (.int .u32 (s.f.toNat : Int)) ∧ w.cell? ⟨g, 6, none⟩ = some (.int .u32 (s.g.toNat : Int)) ∧ w.cell? ⟨g, 7, none⟩ = some (.int .u32 (s.h.toNat : Int)) :=
  ⟨h.cell 0, h.cell 1, h.cell 2, h.cell 3, h.cell 4, h.cell 5, h.cell 6, h.cell 7⟩
theorem stc_range0 (s : S8) (blk : List UInt8) (n : Nat) {w : World} {g : Nat} {T : TypeId} (h : Has w g T (stc s blk n).toArray) : w.rangeAt g 0 (wcells s.toList).toList := by
  intro j v hv
  have h1 : (wcells s.toList).toList = s.toList.map fun x => Value.int .u32 (x.toNat : Int) := by simp [wcells]
  rw [h1] at hv
  have hj := (List.getElem?_eq_some_iff.1 hv).1
  rw [Nat.zero_add, h.cell, List.getElem?_toArray, stc, List.getElem?_append_left hj, hv]
theorem stc_range8 (s : S8) (blk : List UInt8) (n : Nat) {w : World} {g : Nat} {T : TypeId} (h : Has w g T (stc s blk n).toArray) : w.rangeAt g 8 (bcells blk) := by
  intro j v hv
  have h8 : (s.toList.map fun x => Value.int .u32 (x.toNat : Int)).length = 8 := by simp [S8.toList]
  have hj := (List.getElem?_eq_some_iff.1 hv).1
  rw [h.cell, List.getElem?_toArray, stc, List.getElem?_append_right (by omega), h8, show 8 + j - 8 = j by omega, List.getElem?_append_left hj, hv]
theorem block_vals (blk : List UInt8) (f : Nat → UInt8) (hb : blk.length = 64) (hf : ∀ i, f i = blk.getD i 0) : (bcells blk).toArray = #[(.int .u8 ((f 0).toNat : Int)), (.int .u8 ((f 1).toNat : Int)), (.int .u8 ((f 2).toNat : Int)), (.int .u8 ((f 3).toNat : Int)), (.int .u8 ((f 4).toNat : Int)), (.int .u8 ((f 5).toNat : Int)), (.int .u8 ((f 6).toNat : Int)), (.int .u8 ((f 7).toNat : Int)), (.int .u8 ((f 8).toNat : Int)), (.int .u8 ((f 9).toNat : Int)), (.int .u8 ((f 10).toNat : Int)), (.int .u8 ((f 11).toNat : Int)), (.int .u8 ((f 12).toNat : Int)), (.int .u8 ((f 13).toNat : Int)), (.int .u8 ((f 14).toNat : Int)), (.int .u8 ((f 15).toNat : Int)), (.int .u8 ((f 16).toNat : Int)), (.int .u8 ((f 17).toNat : Int)), (.int .u8 ((f 18).toNat : Int)), (.int .u8 ((f 19).toNat : Int)), (.int .u8 ((f 20).toNat : Int)), (.int .u8 ((f 21).toNat : Int)), (.int .u8 ((f 22).toNat : Int)), (.int .u8 ((f 23).toNat : Int)), (.int .u8 ((f 24).toNat : Int)), (.int .u8 ((f 25).toNat : Int)), (.int .u8 ((f 26).toNat : Int)), (.int .u8 ((f 27).toNat : Int)), (.int .u8 ((f 28).toNat : Int)), (.int .u8 ((f 29).toNat : Int)), (.int .u8 ((f 30).toNat : Int)), (.int .u8 ((f 31).toNat : Int)), (.int .u8 ((f 32).toNat : Int)), (.int .u8 ((f 33).toNat : Int)), (.int .u8 ((f 34).toNat : Int)), (.int .u8 ((f 35).toNat : Int)), (.int .u8 ((f 36).toNat : Int)), (.int .u8 ((f 37).toNat : Int)), (.int .u8 ((f 38).toNat : Int)), (.int .u8 ((f 39).toNat : Int)), (.int .u8 ((f 40).toNat : Int)), (.int .u8 ((f 41).toNat : Int)), (.int .u8 ((f 42).toNat : Int)), (.int .u8 ((f 43).toNat : Int)), (.int .u8 ((f 44).toNat : Int)), (.int .u8 ((f 45).toNat : Int)), (.int .u8 ((f 46).toNat : Int)), (.int .u8 ((f 47).toNat : Int)), (.int .u8 ((f 48).toNat : Int)), (.int .u8 ((f 49).toNat : Int)), (.int .u8 ((f 50).toNat : Int)), (.int .u8 ((f 51).toNat : Int)), (.int .u8 ((f 52).toNat : Int)), (.int .u8 ((f 53).toNat : Int)), (.int .u8 ((f 54).toNat : Int)), (.int .u8 ((f 55).toNat : Int)), (.int .u8 ((f 56).toNat : Int)), (.int .u8 ((f 57).toNat : Int)), (.int .u8 ((f 58).toNat : Int)), (.int .u8 ((f 59).toNat : Int)), (.int .u8 ((f 60).toNat : Int)), (.int .u8 ((f 61).toNat : Int)), (.int .u8 ((f 62).toNat : Int)), (.int .u8 ((f 63).toNat : Int))] := by
  have h : blk = (List.range 64).map f := by
    apply List.ext_getElem
    · simp [hb]
    · intro i h1 h2
      simp [hf, List.getD, h1]
  rw [h]
  rfl
theorem block_cell {w : World} {g : Nat} {T : TypeId} {s : S8} {blk : List UInt8} {n : Nat} {f : Nat → UInt8} (hf : ∀ i, f i = blk.getD i 0) (hb : blk.length = 64) (h : Has w g T (stc s blk n).toArray) (k : Nat) (hk : k < 64) :
    w.cell? ⟨g, 8 + k, none⟩ = some (.int .u8 ((f k).toNat : Int)) := by
  have hk' : k < blk.length := by omega
  exact stc_range8 s blk n h k _ (by simp [bcells, hf, List.getD, hk'])
theorem Has.there {w : World} {g : Nat} {T : TypeId} {cs : Array Value} (h : Has w g T cs) (o n : Nat) (hn : o + n ≤ cs.size) : w.there g o n := fun j hj => by
  rw [h.cell, Array.getElem?_eq_getElem (by omega)]
  exact ⟨rfl, h.free _⟩

def set8 (w : World) (g : Nat) (x : S8) : World :=
  (((((((w.setCell ⟨g, 0, none⟩ (.int .u32 (x.a.toNat : Int))).setCell ⟨g, 1, none⟩ (.int .u32 (x.b.toNat : Int))).setCell ⟨g, 2, none⟩ (.int .u32 (x.c.toNat : Int))).setCell ⟨g, 3, none⟩ (.int .u32 (x.d.toNat : Int))).setCell ⟨g, 4, none⟩ (.int .u32 (x.e.toNat : Int))).setCell ⟨g, 5, none⟩ (.int .u32 (x.f.toNat : Int))).setCell ⟨g, 6, none⟩ (.int .u32 (x.g.toNat : Int))).setCell ⟨g, 7, none⟩ (.int .u32 (x.h.toNat : Int))
theorem Has.set8 {w : World} {g : Nat} {T : TypeId} {s : S8} {blk : List UInt8} {n : Nat} (h : Has w g T (stc s blk n).toArray) (x : S8) : Has (set8 w g x) g T (stc x blk n).toArray := by
  rw [← stc_set8 s x blk n]
  exact (((((((h.set 0 _).set 1 _).set 2 _).set 3 _).set 4 _).set 5 _).set 6 _).set 7 _
theorem Only.set8 (w : World) (g : Nat) (x : S8) : Only w (set8 w g x) g :=
  (((((((Only.set _ g 0 _).trans (Only.set _ g 1 _)).trans (Only.set _ g 2 _)).trans (Only.set _ g 3 _)).trans (Only.set _ g 4 _)).trans (Only.set _ g 5 _)).trans (Only.set _ g 6 _)).trans (Only.set _ g 7 _)
/-- A block is full. -/
theorem StAt.full {w3 : World} {T : TypeId} {g : Nat} {M blk2 : List UInt8} {t n r : Nat} {sw : S8} (h : Has w3 g T (stc (Sha.mixB sw blk2) blk2 (t + n)).toArray) (hb : blk2.length = 64) (hr : t % 64 = r) (hful : r + n = 64)
    (hsw : Sha.hashN M (t / 64) = sw) (hnx : blk2.take (r + n) = (M.take (t + n)).drop (64 * (t / 64))) : StAt w3 T g M (t + n) := by
  have e1 : (t + n) / 64 = t / 64 + 1 := by omega
  have e2 : (t + n) % 64 = 0 := by omega
  have e3 : t + n = 64 * (t / 64) + 64 := by omega
  have hb64 : blk2 = (M.drop (64 * (t / 64))).take 64 := by
    rw [hful, List.take_of_length_le (by rw [hb]; exact Nat.le_refl _), e3, List.drop_take] at hnx
    rw [hnx]; congr 1; omega
  refine ⟨blk2, hb, ?_, ?_⟩
  · rw [e1]
    have : Sha.hashN M (t / 64 + 1) = Sha.mixB sw blk2 := by
      show Sha.mixB (Sha.hashN M (t / 64)) _ = _
      rw [hsw, ← hb64]
    rw [this]; exact h
  · rw [e1, e2, List.take_zero, List.drop_eq_nil_of_le (by rw [List.length_take]; omega)]
end Go.Proofs.YtgjknfphmmlcdaaDoor
