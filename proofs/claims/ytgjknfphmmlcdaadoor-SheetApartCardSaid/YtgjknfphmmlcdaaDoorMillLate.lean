/-
  MillLate: the texts MillPad, MillReady, MillTag, MillEnter, MillAwake, MillLaw, MillWith, MillEnts in one.
-/
import Derived.Test.YtgjknfphmmlcdaaDoorMillRec
import Derived.Laws.Rows
import Derived.Deep.QuietTactic
import Derived.Deep.RegionHeld3
import Derived.Deep.Slices
import Derived.SizedLaws
namespace Go.Proofs.YtgjknfphmmlcdaaDoor
open Go.RowKit
set_option linter.unusedVariables false

theorem wpList_copy_text {P : Program} (w : World) {ops : Array Oper} {rest : List Oper} {o : Oper} {a : Act} {Q : Exit → Act → World → Prop} (hgd : o.guard = none) (d s : Operand) (dT sT : TypeId)
    (ho : o.op = .call { callee := .builtin .copy, args := #[d, s], argTypes := #[dT, sT] }) (elem : TypeId) (hu : P.underlying dT = some (.slice elem)) (hsz : (P.info? elem).map (·.size) = some 1)
    (g off dLen dCap : Nat) (hd : a.eval d = .slice (some ⟨g, off, none⟩) dLen dCap) (l : List UInt8) (hx : a.eval s = .string (S l))
    (cur : List Value) (t : TypeId) (hg : w.heap[g]? = some (.cells cur.toArray t (0, 0))) (n : Nat) (hn : n = Nat.min l.length dLen) (hfit : off + n ≤ cur.length)
    (h : ∀ w', w' = w.setRow g (splice cur off (bcells (l.take n))).toArray → wpList P ops Q rest (a.put o.dst (goInt n)) w') :
    wpList P ops Q (o :: rest) a w := by
  refine wpList_plain hgd fun K' hK' => ?_
  have hrun := run_copy_text (P := P) w dT sT o.type elem g off dLen dCap l cur t hu hsz hg n hn hfit
  unfold Oper.wp
  simp [execOp, ho, resolve, invoke, builtin, hd, hx, hrun, Result.andThen]
  exact hK' _ _ (h _ rfl)

theorem b_xor (a b : UInt8) : bits .xor .u8 (a.toNat : Int) (b.toNat : Int) = ((a ^^^ b).toNat : Int) := by
  rw [u8_xor_nat _ _ a.toNat_lt b.toNat_lt, UInt8.toNat_xor]

/-- The first i bytes are turned. -/
def padI (z : List UInt8) (x : UInt8) (i : Nat) : List UInt8 := (z.take i).map (· ^^^ x) ++ z.drop i
theorem padI_len (z : List UInt8) (x : UInt8) (i : Nat) : (padI z x i).length = z.length := by simp [padI]; omega
theorem padI_at (z : List UInt8) (x : UInt8) (i : Nat) (h : i < z.length) : (bcells (padI z x i)).toArray[i]? = some (.int .u8 ((z[i]'h).toNat : Int)) := by
  have : (padI z x i)[i]? = some (z[i]'h) := by
    unfold padI
    rw [List.getElem?_append_right (by simp; omega)]
    simp [List.length_take, Nat.min_eq_left (Nat.le_of_lt h), h]
  simp [bcells, this]
theorem padI_set (z : List UInt8) (x : UInt8) (i : Nat) (h : i < z.length) : (bcells (padI z x i)).toArray.setIfInBounds i (.int .u8 (((z[i]'h) ^^^ x).toNat : Int)) = (bcells (padI z x (i + 1))).toArray := by
  apply Array.ext'
  rw [Array.toList_setIfInBounds]
  unfold bcells padI
  simp only [List.map_append]
  rw [List.set_append_right _ _ (by simp; omega)]
  have e1 : (List.map (fun c : UInt8 => Value.int .u8 (c.toNat : Int)) (List.map (· ^^^ x) (z.take i))).length = i := by simp; omega
  rw [e1, Nat.sub_self, List.drop_eq_getElem_cons h, List.map_cons, List.set_cons_zero, List.take_succ_eq_append_getElem h]
  simp only [List.map_append, List.map_cons, List.map_nil, List.append_assoc, List.cons_append, List.nil_append]

theorem zero64 (W : World) : (zeroValue 122).run Tryd.prog W = .ok (.agg (bcells (List.replicate 64 0)).toArray) W := by kernel_rfl
theorem pad_splice' (k : List UInt8) (n : Nat) (h : k.length ≤ n) : splice (bcells (List.replicate n 0)) 0 (bcells k) = bcells (k ++ List.replicate (n - k.length) 0) := by
  unfold splice bcells
  simp [List.drop_replicate]
theorem pad_splice (k : List UInt8) (h : k.length ≤ 64) : splice (bcells (List.replicate 64 0)) 0 (bcells (k.take k.length)) = bcells (k ++ List.replicate (64 - k.length) 0) := by
  rw [List.take_length]
  exact pad_splice' k 64 h

end Go.Proofs.YtgjknfphmmlcdaaDoor

namespace Go.Proofs.YtgjknfphmmlcdaaDoor
open Go.RowKit
set_option linter.unusedVariables false

/-- A key made ready. -/
def Mill.kh (l : List Mill.En) (k : List UInt8) : List UInt8 := if Mill.keyed l then Sha.sum k else []
def secVal (a b c : List UInt8) : Value := .agg #[.string (S a), .string (S b), .string (S c)]
def ReadyPost (w : World) (a b c : List UInt8) (e : Ending) (w' : World) : Prop := e = .returned (secVal a b c) ∧ Below w.heap.size w w'

end Go.Proofs.YtgjknfphmmlcdaaDoor

namespace Go.Proofs.YtgjknfphmmlcdaaDoor
open Go.RowKit
set_option linter.unusedVariables false

/-- The tag by a key made ready. -/
def Mill.tagOf (l : List Mill.En) (kh pa pb s : List UInt8) : List UInt8 := (if Mill.keyed l then Mill.ask l (true, kh, s) else none).getD (Sha.sum (pb ++ Sha.sum (pa ++ s)))
theorem Mill.tagOf_ready (l : List Mill.En) (k s : List UInt8) : Mill.tagOf l (Mill.kh l k) (Mill.pad (Mill.key64 k) 0x36) (Mill.pad (Mill.key64 k) 0x5c) s = Mill.tag l k s := by
  unfold Mill.tagOf Mill.tag Mill.kh Mill.hmac
  cases h : Mill.keyed l with
  | true => rfl
  | false =>
    simp only [Bool.false_eq_true, if_false]
    rw [Mill.ask_untagged l h]

theorem Asks.look1 {w : World} {tv : Option Nat} {l : List Mill.En} (h : Asks w tv l) (i : Mill.In) (h1 : i.2.1.length ≤ maxLen) (h2 : i.2.2.length ≤ maxLen) (W : World) (hW : ∀ b, tv = some b → W.heap[b]? = w.heap[b]?) :
    (Instr.lookup 65 (.map tv) (inVal i) true).run Tryd.prog W = .ok (.tuple #[.agg #[.string (S ((Mill.ask l i).getD []))], .bool (Mill.ask l i).isSome]) W :=
  (h.keep hW).look i h1 h2

theorem pad_length (l : List Mill.En) (k : List UInt8) : (Mill.kh l k).length ≤ 64 ∧ (Mill.pad (Mill.key64 k) 0x36).length = 64 ∧ (Mill.pad (Mill.key64 k) 0x5c).length = 64 := by
  refine ⟨?_, Mill.pad_len _ _ (Mill.key64_len k), Mill.pad_len _ _ (Mill.key64_len k)⟩
  unfold Mill.kh
  split
  · rw [Sha.sum_len]; omega
  · exact Nat.zero_le _

end Go.Proofs.YtgjknfphmmlcdaaDoor

namespace Go.Proofs.YtgjknfphmmlcdaaDoor
open Go.RowKit
set_option linter.unusedVariables false

/-- A mill whose table lies in block tb. -/
structure MillTab (w : World) (g nb tb : Nat) (l : List Mill.En) (st : Mill.St) : Prop where
  has : Has w g 70 (millCells (some tb) nb l st)
  asks : Asks w (some tb) l
  noted : Noted w nb st.notes
  gn : g ≠ nb
  tg : tb ≠ g
  tn : tb ≠ nb
  len : l.length < maxLen
theorem MillTab.at {w : World} {g nb tb : Nat} {l : List Mill.En} {st : Mill.St} (h : MillTab w g nb tb l st) : MillAt w g nb l st :=
  ⟨some tb, h.has, h.asks, h.noted, h.gn, fun b hb => by injection hb with hb; subst hb; exact ⟨h.tg, h.tn⟩, h.len⟩
theorem MillTab.below {w w' : World} {g nb tb : Nat} {l : List Mill.En} {st : Mill.St} (h : MillTab w g nb tb l st) (hb : Below w.heap.size w w') : MillTab w' g nb tb l st :=
  ⟨h.has.below hb h.has.lt, h.asks.keep (fun b e => by injection e with e; subst e; exact hb.block _ h.asks.lt), h.noted.keep (hb.block _ h.noted.lt), h.gn, h.tg, h.tn, h.len⟩

def enVal (e : Mill.En) : Value := .agg #[.bool e.tag, .string (S e.key), .string (S e.text), .string (S e.out)]
def EnterPost (w : World) (g nb tb : Nat) (l : List Mill.En) (st : Mill.St) (e : Ending) (w' : World) : Prop := e = .returned (.tuple #[]) ∧ MillTab w' g nb tb l st ∧ Mv w w' [g, tb]
theorem keyed_snoc (l : List Mill.En) (e : Mill.En) : Mill.keyed (l ++ [e]) = (Mill.keyed l || e.tag) := by simp [Mill.keyed]

set_option maxRecDepth 100000 in
set_option maxHeartbeats 4000000 in
theorem enter_01 (e : Mill.En) (g nb tb : Nat) (l : List Mill.En) (st : Mill.St) (w : World) (h : MillTab w g nb tb l st) (hk : e.key.length ≤ 5000000000000000) (ht : e.text.length ≤ 5000000000000000) (hT : Tabs w) (hg : 2 ≤ g) (hl : (l ++ [e]).length < maxLen) (htag : e.tag = false) (hask : Mill.ask l e.inp ≠ none) :
    Calls Tryd.prog 40 #[.pointer (some ⟨g, 0, none⟩), .agg #[.bool false, .string (S e.key), .string (S e.text), .string (S e.out)]] w (EnterPost w g nb tb (l ++ [e]) st) := by
  have htm : e.text.length ≤ maxLen := Nat.le_trans ht (by decide)
  have hinp : inVal e.inp = .agg #[.bool false, .string (S []), .string (S e.text)] := by
    unfold inVal Mill.En.inp; rw [htag]; rfl
  have hkey : Mill.keyed (l ++ [e]) = Mill.keyed l := by rw [keyed_snoc, htag]; simp
  have hfin : Hid (∀ W, Has W g 70 (millCells (some tb) nb (l ++ [e]) st) → Asks W (some tb) (l ++ [e]) → Noted W nb st.notes → MillTab W g nb tb (l ++ [e]) st) := fun W h1 h2 h3 => ⟨h1, h2, h3, h.gn, h.tg, h.tn, hl⟩
  have HASK : Hid (∀ W, Asks W (some tb) l → (Instr.lookup 65 (.map (some tb)) (.agg #[.bool false, .string (S []), .string (S e.text)]) true).run Tryd.prog W = .ok (.tuple #[.agg #[.string (S ((Mill.ask l e.inp).getD []))], .bool true]) W) := fun W hW => by
    have := hW.look e.inp (by unfold Mill.En.inp; rw [htag]; simp) htm
    rw [hinp] at this
    rw [this]
    cases hm : Mill.ask l e.inp with
    | none => exact absurd hm hask
    | some o => rfl
  have HPUT : Hid (∀ W, Asks W (some tb) l → Asks W (some tb) (l ++ [e])) := fun W hW => hW.skip e (by cases hm : Mill.ask l e.inp with | none => exact absurd hm hask | some o => rfl)
  obtain ⟨hc, ha, hn, hgn, htg, htn, _⟩ := h
  have hglt := hc.lt
  have htlt := ha.lt
  have hnlt := hn.lt
  have hcs : (millCells (some tb) nb l st) = millCells (some tb) nb (l ++ [e]) st := by unfold millCells; rw [hkey]
  have hz1 := zeroIn
  have hz2 := zeroOut
  have HT := Lib.hid hT; clear hT
  have HC := Lib.hid (And.intro hc (And.intro ha hn))
  have HCS := Lib.hid hcs
  clear hc ha hn hcs hkey hinp hask hl htm hk ht
  generalize e.key = ek at *
  generalize e.text = et at *
  generalize e.out = eo at *
  go_enter Tryd.func40, Tryd.ntmps40
  go_upto_region 2 with (fail)
  generalize hW : World.alloc (World.alloc w _) _ = W
  have hb0 : Below w.heap.size w W := by rw [← hW]; exact ((Below.refl _ _).alloc (Nat.le_refl _) _).alloc (by simp) _
  have hh0 : Has W w.heap.size 91 #[.bool false, .string (S ek), .string (S et), .string (S eo)] := by rw [← hW]; exact (Has.made _ _ _).of_alloc _
  have hh1 : Has W (w.heap.size + 1) 102 #[.bool false, .string (S []), .string (S et)] := by
    have := Has.made (w.alloc (.cells #[.bool false, .string (S ek), .string (S et), .string (S eo)] 91)) 102 #[.bool false, .string (S []), .string (S et)]
    rw [← hW]; simpa using this
  have d0 : W.cell? ⟨w.heap.size, 0, none⟩ = some (.bool false) := hh0.cell 0
  have hlt1 := hh1.lt
  clear hW
  go_upto_region 5 with (fail)
  have hw5 : Has W g 70 (millCells (some tb) nb (l ++ [e]) st) := by rw [← HCS.out]; exact HC.out.1.below hb0 hglt
  have ha5 : Asks W (some tb) l := HC.out.2.1.keep (fun b hb => by injection hb with hb; subst hb; exact hb0.block _ htlt)
  have hn5 : Noted W nb st.notes := HC.out.2.2.keep (hb0.block _ hnlt)
  have hm5 : Mv w W [g] := Mv.of_below hb0 _
  have k0 : W.cell? ⟨g, 0, none⟩ = some (.map (some tb)) := hw5.cell 0
  have e0 : W.cell? ⟨w.heap.size + 1, 0, none⟩ = some (.bool false) := hh1.cell 0
  have e1 : W.cell? ⟨w.heap.size + 1, 1, none⟩ = some (.string (S [])) := hh1.cell 1
  have e2 : W.cell? ⟨w.heap.size + 1, 2, none⟩ = some (.string (S et)) := hh1.cell 2
  have d3 : W.cell? ⟨w.heap.size, 3, none⟩ = some (.string (S eo)) := hh0.cell 3
  have tblt := ha5.lt
  have hgW := hw5.lt
  have hk1 := HASK.out W.drew (ha5.keep (fun _ _ => rfl))
  have hk2 := HASK.out ((W.alloc (.cells #[.string (S [])] 104)).drew) (ha5.keep (fun b hb => by injection hb with hb; subst hb; exact Below.heap_alloc _ _ _ tblt))
  generalize (Mill.ask l e.inp).getD [] = ov at hk1 hk2
  go_region
  all_goals
    go_wp2_with fail
    go_returns
    have hmv := ((Mv.refl W [g]).alloc (.cells #[.string (S ov)] 104)).drew
    refine ⟨rfl, hfin.out _ ?_ (HPUT.out _ ?_) ?_, (hm5.trans hmv).wide (by simp)⟩
    · exact hw5.of_alloc _
    · exact ha5.keep (fun b hb => by injection hb with hb; subst hb; exact Below.heap_alloc _ _ _ tblt)
    · exact hn5.keep (Below.heap_alloc _ _ _ hn5.lt)

set_option maxRecDepth 100000 in
set_option maxHeartbeats 4000000 in
theorem enter_00 (e : Mill.En) (g nb tb : Nat) (l : List Mill.En) (st : Mill.St) (w : World) (h : MillTab w g nb tb l st) (hk : e.key.length ≤ 5000000000000000) (ht : e.text.length ≤ 5000000000000000) (hT : Tabs w) (hg : 2 ≤ g) (hl : (l ++ [e]).length < maxLen) (htag : e.tag = false) (hask : Mill.ask l e.inp = none) :
    Calls Tryd.prog 40 #[.pointer (some ⟨g, 0, none⟩), .agg #[.bool false, .string (S e.key), .string (S e.text), .string (S e.out)]] w (EnterPost w g nb tb (l ++ [e]) st) := by
  have htm : e.text.length ≤ maxLen := Nat.le_trans ht (by decide)
  have hinp : inVal e.inp = .agg #[.bool false, .string (S []), .string (S e.text)] := by
    unfold inVal Mill.En.inp; rw [htag]; rfl
  have hkey : Mill.keyed (l ++ [e]) = Mill.keyed l := by rw [keyed_snoc, htag]; simp
  have hfin : Hid (∀ W, Has W g 70 (millCells (some tb) nb (l ++ [e]) st) → Asks W (some tb) (l ++ [e]) → Noted W nb st.notes → MillTab W g nb tb (l ++ [e]) st) := fun W h1 h2 h3 => ⟨h1, h2, h3, h.gn, h.tg, h.tn, hl⟩
  have HASK : Hid (∀ W, Asks W (some tb) l → (Instr.lookup 65 (.map (some tb)) (.agg #[.bool false, .string (S []), .string (S e.text)]) true).run Tryd.prog W = .ok (.tuple #[.agg #[.string (S ((Mill.ask l e.inp).getD []))], .bool false]) W) := fun W hW => by
    have := hW.look e.inp (by unfold Mill.En.inp; rw [htag]; simp) htm
    rw [hinp] at this
    rw [this]
    rw [hask]; rfl
  have HPUT : Hid (∀ W, Asks W (some tb) l → ∃ w', (Instr.mapUpdate 65 (.map (some tb)) (.agg #[.bool false, .string (S []), .string (S e.text)]) (.agg #[.string (S e.out)])).run Tryd.prog W = .ok () w' ∧ Asks w' (some tb) (l ++ [e]) ∧ Only W w' tb) := fun W hW => by
    obtain ⟨w', h1, h2, h3⟩ := hW.put e h.len htm hask
    rw [hinp] at h1
    exact ⟨w', h1, h2, h3⟩
  obtain ⟨hc, ha, hn, hgn, htg, htn, _⟩ := h
  have hglt := hc.lt
  have htlt := ha.lt
  have hnlt := hn.lt
  have hcs : (millCells (some tb) nb l st) = millCells (some tb) nb (l ++ [e]) st := by unfold millCells; rw [hkey]
  have hz1 := zeroIn
  have hz2 := zeroOut
  have HT := Lib.hid hT; clear hT
  have HC := Lib.hid (And.intro hc (And.intro ha hn))
  have HCS := Lib.hid hcs
  clear hc ha hn hcs hkey hinp hask hl htm hk ht
  generalize e.key = ek at *
  generalize e.text = et at *
  generalize e.out = eo at *
  go_enter Tryd.func40, Tryd.ntmps40
  go_upto_region 2 with (fail)
  generalize hW : World.alloc (World.alloc w _) _ = W
  have hb0 : Below w.heap.size w W := by rw [← hW]; exact ((Below.refl _ _).alloc (Nat.le_refl _) _).alloc (by simp) _
  have hh0 : Has W w.heap.size 91 #[.bool false, .string (S ek), .string (S et), .string (S eo)] := by rw [← hW]; exact (Has.made _ _ _).of_alloc _
  have hh1 : Has W (w.heap.size + 1) 102 #[.bool false, .string (S []), .string (S et)] := by
    have := Has.made (w.alloc (.cells #[.bool false, .string (S ek), .string (S et), .string (S eo)] 91)) 102 #[.bool false, .string (S []), .string (S et)]
    rw [← hW]; simpa using this
  have d0 : W.cell? ⟨w.heap.size, 0, none⟩ = some (.bool false) := hh0.cell 0
  have hlt1 := hh1.lt
  clear hW
  go_upto_region 5 with (fail)
  have hw5 : Has W g 70 (millCells (some tb) nb (l ++ [e]) st) := by rw [← HCS.out]; exact HC.out.1.below hb0 hglt
  have ha5 : Asks W (some tb) l := HC.out.2.1.keep (fun b hb => by injection hb with hb; subst hb; exact hb0.block _ htlt)
  have hn5 : Noted W nb st.notes := HC.out.2.2.keep (hb0.block _ hnlt)
  have hm5 : Mv w W [g] := Mv.of_below hb0 _
  have k0 : W.cell? ⟨g, 0, none⟩ = some (.map (some tb)) := hw5.cell 0
  have e0 : W.cell? ⟨w.heap.size + 1, 0, none⟩ = some (.bool false) := hh1.cell 0
  have e1 : W.cell? ⟨w.heap.size + 1, 1, none⟩ = some (.string (S [])) := hh1.cell 1
  have e2 : W.cell? ⟨w.heap.size + 1, 2, none⟩ = some (.string (S et)) := hh1.cell 2
  have d3 : W.cell? ⟨w.heap.size, 3, none⟩ = some (.string (S eo)) := hh0.cell 3
  have tblt := ha5.lt
  have hgW := hw5.lt
  have hk1 := HASK.out W.drew (ha5.keep (fun _ _ => rfl))
  have hk2 := HASK.out ((W.alloc (.cells #[.string (S [])] 104)).drew) (ha5.keep (fun b hb => by injection hb with hb; subst hb; exact Below.heap_alloc _ _ _ tblt))
  go_region
  all_goals
    clear hk1 hk2
    go_upto_region 7 with (fail)
    generalize hW7 : World.drew (World.alloc W _) = W7
    have hm7 : Mv W W7 [tb] := by rw [← hW7]; exact ((Mv.refl W [tb]).alloc _).drew
    have hd7 : W7.drew.heap = W7.heap := rfl
    obtain ⟨w9, hrun, ha9, ho9⟩ := HPUT.out W7.drew (ha5.keep (fun b hb => by injection hb with hb; subst hb; rw [← hW7]; exact Below.heap_alloc _ _ _ tblt))
    have hh0' : Has W7 w.heap.size 91 #[.bool false, .string (S ek), .string (S et), .string (S eo)] := by rw [← hW7]; exact hh0.of_alloc _
    have hh1' : Has W7 (w.heap.size + 1) 102 #[.bool false, .string (S []), .string (S et)] := by rw [← hW7]; exact hh1.of_alloc _
    have hw7 : Has W7 g 70 (millCells (some tb) nb (l ++ [e]) st) := by rw [← hW7]; exact hw5.of_alloc _
    have hn7 : Noted W7 nb st.notes := hn5.keep (by rw [← hW7]; exact Below.heap_alloc _ _ _ hn5.lt)
    have k0 : W7.cell? ⟨g, 0, none⟩ = some (.map (some tb)) := hw7.cell 0
    have e0 : W7.cell? ⟨w.heap.size + 1, 0, none⟩ = some (.bool false) := hh1'.cell 0
    have e1 : W7.cell? ⟨w.heap.size + 1, 1, none⟩ = some (.string (S [])) := hh1'.cell 1
    have e2 : W7.cell? ⟨w.heap.size + 1, 2, none⟩ = some (.string (S et)) := hh1'.cell 2
    have d3 : W7.cell? ⟨w.heap.size, 3, none⟩ = some (.string (S eo)) := hh0'.cell 3
    have HF : Hid (MillTab w9 g nb tb (l ++ [e]) st ∧ Mv w w9 [g, tb]) := by
      have o9 := ho9.block
      refine ⟨hfin.out _ ?_ ha9 ?_, ?_⟩
      · exact (o9 g hw7.lt (fun e => htg (by injection e with e; exact e.symm))).trans hw7
      · exact hn7.keep (o9 nb hn7.lt (fun e => htn (by injection e with e; exact e.symm)))
      · exact ((hm5.wide (by simp)).trans (hm7.wide (by simp))).trans ((Mv.of_only ho9 (s := [tb]) (by simp)).from_drew.wide (by simp))
    clear hW7 hm7 hh0' hh1' hw7 hn7 hm5 hh0 hh1 hw5 ha5 hn5 ha9 ho9
    go_region
    all_goals
      go_wp2_with fail
      go_returns
      exact ⟨rfl, HF.out⟩

set_option maxRecDepth 100000 in
set_option maxHeartbeats 4000000 in
theorem enter_11 (e : Mill.En) (g nb tb : Nat) (l : List Mill.En) (st : Mill.St) (w : World) (h : MillTab w g nb tb l st) (hk : e.key.length ≤ 5000000000000000) (ht : e.text.length ≤ 5000000000000000) (hT : Tabs w) (hg : 2 ≤ g) (hl : (l ++ [e]).length < maxLen) (htag : e.tag = true) (hask : Mill.ask l e.inp ≠ none) :
    Calls Tryd.prog 40 #[.pointer (some ⟨g, 0, none⟩), .agg #[.bool true, .string (S e.key), .string (S e.text), .string (S e.out)]] w (EnterPost w g nb tb (l ++ [e]) st) := by
  have htm : e.text.length ≤ maxLen := Nat.le_trans ht (by decide)
  have hinp : inVal e.inp = .agg #[.bool true, .string (S (Sha.sum e.key)), .string (S e.text)] := by
    unfold inVal Mill.En.inp; rw [htag]; rfl
  have hkey : Mill.keyed (l ++ [e]) = true := by rw [keyed_snoc, htag]; simp
  have hfin : Hid (∀ W, Has W g 70 (millCells (some tb) nb (l ++ [e]) st) → Asks W (some tb) (l ++ [e]) → Noted W nb st.notes → MillTab W g nb tb (l ++ [e]) st) := fun W h1 h2 h3 => ⟨h1, h2, h3, h.gn, h.tg, h.tn, hl⟩
  have HASK : Hid (∀ W, Asks W (some tb) l → (Instr.lookup 65 (.map (some tb)) (.agg #[.bool true, .string (S (Sha.sum e.key)), .string (S e.text)]) true).run Tryd.prog W = .ok (.tuple #[.agg #[.string (S ((Mill.ask l e.inp).getD []))], .bool true]) W) := fun W hW => by
    have := hW.look e.inp (by unfold Mill.En.inp; rw [htag]; simp only [if_true]; rw [Sha.sum_len]; decide) htm
    rw [hinp] at this
    rw [this]
    cases hm : Mill.ask l e.inp with
    | none => exact absurd hm hask
    | some o => rfl
  have HPUT : Hid (∀ W, Asks W (some tb) l → Asks W (some tb) (l ++ [e])) := fun W hW => hW.skip e (by cases hm : Mill.ask l e.inp with | none => exact absurd hm hask | some o => rfl)
  obtain ⟨hc, ha, hn, hgn, htg, htn, _⟩ := h
  have hglt := hc.lt
  have htlt := ha.lt
  have hnlt := hn.lt
  have hcs : (millCells (some tb) nb l st).setIfInBounds 1 (.bool true) = millCells (some tb) nb (l ++ [e]) st := by unfold millCells; rw [hkey]; rfl
  have hz1 := zeroIn
  have hz2 := zeroOut
  have c1 : w.cell? ⟨g, 1, none⟩ = some (.bool (Mill.keyed l)) := hc.cell 1
  have hS := fun W (hTW : Tabs W) => sum_any e.key W hk hTW
  generalize Sha.sum e.key = kh at hS HASK hinp
  have HS := Lib.hid hS; clear hS
  have HT := Lib.hid hT; clear hT
  have HC := Lib.hid (And.intro hc (And.intro ha hn))
  have HCS := Lib.hid hcs
  clear hc ha hn hcs hkey hinp hask hl htm hk ht
  generalize e.key = ek at *
  generalize e.text = et at *
  generalize e.out = eo at *
  go_enter Tryd.func40, Tryd.ntmps40
  go_upto_region 2 with (fail)
  generalize hW : World.alloc (World.alloc w _) _ = W
  have hb0 : Below w.heap.size w W := by rw [← hW]; exact ((Below.refl _ _).alloc (Nat.le_refl _) _).alloc (by simp) _
  have hh0 : Has W w.heap.size 91 #[.bool true, .string (S ek), .string (S et), .string (S eo)] := by rw [← hW]; exact (Has.made _ _ _).of_alloc _
  have hh1 : Has W (w.heap.size + 1) 102 #[.bool false, .string (S []), .string (S et)] := by
    have := Has.made (w.alloc (.cells #[.bool true, .string (S ek), .string (S et), .string (S eo)] 91)) 102 #[.bool false, .string (S []), .string (S et)]
    rw [← hW]; simpa using this
  have d0 : W.cell? ⟨w.heap.size, 0, none⟩ = some (.bool true) := hh0.cell 0
  have hlt1 := hh1.lt
  clear hW
  go_upto_region 3 with (fail)
  have c1W := (hb0.cell (p := ⟨g, 1, none⟩) hglt).trans c1
  have hy1 : W.cell? ⟨w.heap.size, 1, none⟩ = some (.string (S ek)) := hh0.cell 1
  have hy2 : W.cell? ⟨w.heap.size, 2, none⟩ = some (.string (S et)) := hh0.cell 2
  have e0 : W.cell? ⟨w.heap.size + 1, 0, none⟩ = some (.bool false) := hh1.cell 0
  have e1 : W.cell? ⟨w.heap.size + 1, 1, none⟩ = some (.string (S [])) := hh1.cell 1
  have e2 : W.cell? ⟨w.heap.size + 1, 2, none⟩ = some (.string (S et)) := hh1.cell 2
  have g0 := hh1.free 0
  have g1 := hh1.free 1
  have g2 := hh1.free 2
  replace hh0 : Has W.drew w.heap.size 91 #[.bool true, .string (S ek), .string (S et), .string (S eo)] := hh0
  replace hh1 : Has W.drew (w.heap.size + 1) 102 #[.bool false, .string (S []), .string (S et)] := hh1
  replace hb0 : Below w.heap.size w W.drew := hb0.drew
  replace hlt1 : w.heap.size + 1 < W.drew.heap.size := hlt1
  clear d0 c1 c1W
  go_region_held3 (fun w' => w'.cell? ⟨w.heap.size, 1, none⟩ = some (.string (S ek)) ∧ w'.cell? ⟨w.heap.size, 2, none⟩ = some (.string (S et))) (first | exact ⟨hy1, hy2⟩ | go_keep) (first | (go_at_call 49; refine (HS.out _ (HT.out.below hb0 HT.out.2.2)).mono ?_; rintro r1 w1 ⟨rfl, hb1⟩; have hh0 := hh0.below hb1 (by omega); have hh1 := hh1.below hb1 (by omega); have hb0 := hb0.trans (hb1.mono hb0.size); have hlt1 := Nat.lt_of_lt_of_le hlt1 hb1.size; have hy1 : w1.cell? ⟨w.heap.size, 1, none⟩ = some (.string (S ek)) := hh0.cell 1; have hy2 : w1.cell? ⟨w.heap.size, 2, none⟩ = some (.string (S et)) := hh0.cell 2; have e0 : w1.cell? ⟨w.heap.size + 1, 0, none⟩ = some (.bool false) := hh1.cell 0; have e1 : w1.cell? ⟨w.heap.size + 1, 1, none⟩ = some (.string (S [])) := hh1.cell 1; have e2 : w1.cell? ⟨w.heap.size + 1, 2, none⟩ = some (.string (S et)) := hh1.cell 2; have g0 := hh1.free 0; have g1 := hh1.free 1; have g2 := hh1.free 2; clear hb1))
  have hwm := HC.out.1.below hb0 hglt
  have m1 : w1.cell? ⟨g, 1, none⟩ = some (.bool (Mill.keyed l)) := hwm.cell 1
  have mf := hwm.free 1
  have hgne : g ≠ w.heap.size + 1 := by omega
  go_upto_region 5 with (fail)
  generalize hW : World.setCell (World.setCell (World.setCell (World.setCell w1 _ _) _ _) _ _) _ _ = W
  have hw5 : Has W g 70 (millCells (some tb) nb (l ++ [e]) st) := by rw [← hW, ← HCS.out]; exact (((hwm.other (p := ⟨w.heap.size + 1, 0, none⟩) hgne _).other (p := ⟨w.heap.size + 1, 1, none⟩) hgne _).other (p := ⟨w.heap.size + 1, 2, none⟩) hgne _).set 1 _
  have hm5 : Mv w W [g] := by rw [← hW]; exact (Mv.of_below (((hb0.setCell (p := ⟨w.heap.size + 1, 0, none⟩) (by simp) _).setCell (p := ⟨w.heap.size + 1, 1, none⟩) (by simp) _).setCell (p := ⟨w.heap.size + 1, 2, none⟩) (by simp) _) _).trans (Mv.of_only (Only.set _ g 1 _) (by simp))
  replace hh1 : Has W (w.heap.size + 1) 102 #[.bool true, .string (S kh), .string (S et)] := by rw [← hW]; exact (((hh1.set 0 _).set 1 _).set 2 _).other (p := ⟨g, 1, none⟩) hgne.symm _
  replace hh0 : Has W w.heap.size 91 #[.bool true, .string (S ek), .string (S et), .string (S eo)] := by rw [← hW]; exact (((hh0.other (p := ⟨w.heap.size + 1, 0, none⟩) (by simp) _).other (p := ⟨w.heap.size + 1, 1, none⟩) (by simp) _).other (p := ⟨w.heap.size + 1, 2, none⟩) (by simp) _).other (p := ⟨g, 1, none⟩) (by simp; omega) _
  have ha5 : Asks W (some tb) l := HC.out.2.1.keep (fun b hb => by injection hb with hb; subst hb; exact hm5.block _ htlt (by simpa using htg))
  have hn5 : Noted W nb st.notes := HC.out.2.2.keep (hm5.block _ hnlt (by simpa using hgn.symm))
  have hlt1 := hh1.lt
  clear hW hwm m1 mf hy1 hy2 g0 g1 g2 e0 e1 e2 hb0
  have k0 : W.cell? ⟨g, 0, none⟩ = some (.map (some tb)) := hw5.cell 0
  have e0 : W.cell? ⟨w.heap.size + 1, 0, none⟩ = some (.bool true) := hh1.cell 0
  have e1 : W.cell? ⟨w.heap.size + 1, 1, none⟩ = some (.string (S kh)) := hh1.cell 1
  have e2 : W.cell? ⟨w.heap.size + 1, 2, none⟩ = some (.string (S et)) := hh1.cell 2
  have d3 : W.cell? ⟨w.heap.size, 3, none⟩ = some (.string (S eo)) := hh0.cell 3
  have tblt := ha5.lt
  have hgW := hw5.lt
  have hk1 := HASK.out W.drew (ha5.keep (fun _ _ => rfl))
  have hk2 := HASK.out ((W.alloc (.cells #[.string (S [])] 104)).drew) (ha5.keep (fun b hb => by injection hb with hb; subst hb; exact Below.heap_alloc _ _ _ tblt))
  generalize (Mill.ask l e.inp).getD [] = ov at hk1 hk2
  go_region
  all_goals
    go_wp2_with fail
    go_returns
    have hmv := ((Mv.refl W [g]).alloc (.cells #[.string (S ov)] 104)).drew
    refine ⟨rfl, hfin.out _ ?_ (HPUT.out _ ?_) ?_, (hm5.trans hmv).wide (by simp)⟩
    · exact hw5.of_alloc _
    · exact ha5.keep (fun b hb => by injection hb with hb; subst hb; exact Below.heap_alloc _ _ _ tblt)
    · exact hn5.keep (Below.heap_alloc _ _ _ hn5.lt)

set_option maxRecDepth 100000 in
set_option maxHeartbeats 4000000 in
theorem enter_10 (e : Mill.En) (g nb tb : Nat) (l : List Mill.En) (st : Mill.St) (w : World) (h : MillTab w g nb tb l st) (hk : e.key.length ≤ 5000000000000000) (ht : e.text.length ≤ 5000000000000000) (hT : Tabs w) (hg : 2 ≤ g) (hl : (l ++ [e]).length < maxLen) (htag : e.tag = true) (hask : Mill.ask l e.inp = none) :
    Calls Tryd.prog 40 #[.pointer (some ⟨g, 0, none⟩), .agg #[.bool true, .string (S e.key), .string (S e.text), .string (S e.out)]] w (EnterPost w g nb tb (l ++ [e]) st) := by
  have htm : e.text.length ≤ maxLen := Nat.le_trans ht (by decide)
  have hinp : inVal e.inp = .agg #[.bool true, .string (S (Sha.sum e.key)), .string (S e.text)] := by
    unfold inVal Mill.En.inp; rw [htag]; rfl
  have hkey : Mill.keyed (l ++ [e]) = true := by rw [keyed_snoc, htag]; simp
  have hfin : Hid (∀ W, Has W g 70 (millCells (some tb) nb (l ++ [e]) st) → Asks W (some tb) (l ++ [e]) → Noted W nb st.notes → MillTab W g nb tb (l ++ [e]) st) := fun W h1 h2 h3 => ⟨h1, h2, h3, h.gn, h.tg, h.tn, hl⟩
  have HASK : Hid (∀ W, Asks W (some tb) l → (Instr.lookup 65 (.map (some tb)) (.agg #[.bool true, .string (S (Sha.sum e.key)), .string (S e.text)]) true).run Tryd.prog W = .ok (.tuple #[.agg #[.string (S ((Mill.ask l e.inp).getD []))], .bool false]) W) := fun W hW => by
    have := hW.look e.inp (by unfold Mill.En.inp; rw [htag]; simp only [if_true]; rw [Sha.sum_len]; decide) htm
    rw [hinp] at this
    rw [this]
    rw [hask]; rfl
  have HPUT : Hid (∀ W, Asks W (some tb) l → ∃ w', (Instr.mapUpdate 65 (.map (some tb)) (.agg #[.bool true, .string (S (Sha.sum e.key)), .string (S e.text)]) (.agg #[.string (S e.out)])).run Tryd.prog W = .ok () w' ∧ Asks w' (some tb) (l ++ [e]) ∧ Only W w' tb) := fun W hW => by
    obtain ⟨w', h1, h2, h3⟩ := hW.put e h.len htm hask
    rw [hinp] at h1
    exact ⟨w', h1, h2, h3⟩
  obtain ⟨hc, ha, hn, hgn, htg, htn, _⟩ := h
  have hglt := hc.lt
  have htlt := ha.lt
  have hnlt := hn.lt
  have hcs : (millCells (some tb) nb l st).setIfInBounds 1 (.bool true) = millCells (some tb) nb (l ++ [e]) st := by unfold millCells; rw [hkey]; rfl
  have hz1 := zeroIn
  have hz2 := zeroOut
  have c1 : w.cell? ⟨g, 1, none⟩ = some (.bool (Mill.keyed l)) := hc.cell 1
  have hS := fun W (hTW : Tabs W) => sum_any e.key W hk hTW
  generalize Sha.sum e.key = kh at hS HASK HPUT hinp
  have HS := Lib.hid hS; clear hS
  have HT := Lib.hid hT; clear hT
  have HC := Lib.hid (And.intro hc (And.intro ha hn))
  have HCS := Lib.hid hcs
  clear hc ha hn hcs hkey hinp hask hl htm hk ht
  generalize e.key = ek at *
  generalize e.text = et at *
  generalize e.out = eo at *
  go_enter Tryd.func40, Tryd.ntmps40
  go_upto_region 2 with (fail)
  generalize hW : World.alloc (World.alloc w _) _ = W
  have hb0 : Below w.heap.size w W := by rw [← hW]; exact ((Below.refl _ _).alloc (Nat.le_refl _) _).alloc (by simp) _
  have hh0 : Has W w.heap.size 91 #[.bool true, .string (S ek), .string (S et), .string (S eo)] := by rw [← hW]; exact (Has.made _ _ _).of_alloc _
  have hh1 : Has W (w.heap.size + 1) 102 #[.bool false, .string (S []), .string (S et)] := by
    have := Has.made (w.alloc (.cells #[.bool true, .string (S ek), .string (S et), .string (S eo)] 91)) 102 #[.bool false, .string (S []), .string (S et)]
    rw [← hW]; simpa using this
  have d0 : W.cell? ⟨w.heap.size, 0, none⟩ = some (.bool true) := hh0.cell 0
  have hlt1 := hh1.lt
  clear hW
  go_upto_region 3 with (fail)
  have c1W := (hb0.cell (p := ⟨g, 1, none⟩) hglt).trans c1
  have hy1 : W.cell? ⟨w.heap.size, 1, none⟩ = some (.string (S ek)) := hh0.cell 1
  have hy2 : W.cell? ⟨w.heap.size, 2, none⟩ = some (.string (S et)) := hh0.cell 2
  have e0 : W.cell? ⟨w.heap.size + 1, 0, none⟩ = some (.bool false) := hh1.cell 0
  have e1 : W.cell? ⟨w.heap.size + 1, 1, none⟩ = some (.string (S [])) := hh1.cell 1
  have e2 : W.cell? ⟨w.heap.size + 1, 2, none⟩ = some (.string (S et)) := hh1.cell 2
  have g0 := hh1.free 0
  have g1 := hh1.free 1
  have g2 := hh1.free 2
  replace hh0 : Has W.drew w.heap.size 91 #[.bool true, .string (S ek), .string (S et), .string (S eo)] := hh0
  replace hh1 : Has W.drew (w.heap.size + 1) 102 #[.bool false, .string (S []), .string (S et)] := hh1
  replace hb0 : Below w.heap.size w W.drew := hb0.drew
  replace hlt1 : w.heap.size + 1 < W.drew.heap.size := hlt1
  clear d0 c1 c1W
  go_region_held3 (fun w' => w'.cell? ⟨w.heap.size, 1, none⟩ = some (.string (S ek)) ∧ w'.cell? ⟨w.heap.size, 2, none⟩ = some (.string (S et))) (first | exact ⟨hy1, hy2⟩ | go_keep) (first | (go_at_call 49; refine (HS.out _ (HT.out.below hb0 HT.out.2.2)).mono ?_; rintro r1 w1 ⟨rfl, hb1⟩; have hh0 := hh0.below hb1 (by omega); have hh1 := hh1.below hb1 (by omega); have hb0 := hb0.trans (hb1.mono hb0.size); have hlt1 := Nat.lt_of_lt_of_le hlt1 hb1.size; have hy1 : w1.cell? ⟨w.heap.size, 1, none⟩ = some (.string (S ek)) := hh0.cell 1; have hy2 : w1.cell? ⟨w.heap.size, 2, none⟩ = some (.string (S et)) := hh0.cell 2; have e0 : w1.cell? ⟨w.heap.size + 1, 0, none⟩ = some (.bool false) := hh1.cell 0; have e1 : w1.cell? ⟨w.heap.size + 1, 1, none⟩ = some (.string (S [])) := hh1.cell 1; have e2 : w1.cell? ⟨w.heap.size + 1, 2, none⟩ = some (.string (S et)) := hh1.cell 2; have g0 := hh1.free 0; have g1 := hh1.free 1; have g2 := hh1.free 2; clear hb1))
  have hwm := HC.out.1.below hb0 hglt
  have m1 : w1.cell? ⟨g, 1, none⟩ = some (.bool (Mill.keyed l)) := hwm.cell 1
  have mf := hwm.free 1
  have hgne : g ≠ w.heap.size + 1 := by omega
  go_upto_region 5 with (fail)
  generalize hW : World.setCell (World.setCell (World.setCell (World.setCell w1 _ _) _ _) _ _) _ _ = W
  have hw5 : Has W g 70 (millCells (some tb) nb (l ++ [e]) st) := by rw [← hW, ← HCS.out]; exact (((hwm.other (p := ⟨w.heap.size + 1, 0, none⟩) hgne _).other (p := ⟨w.heap.size + 1, 1, none⟩) hgne _).other (p := ⟨w.heap.size + 1, 2, none⟩) hgne _).set 1 _
  have hm5 : Mv w W [g] := by rw [← hW]; exact (Mv.of_below (((hb0.setCell (p := ⟨w.heap.size + 1, 0, none⟩) (by simp) _).setCell (p := ⟨w.heap.size + 1, 1, none⟩) (by simp) _).setCell (p := ⟨w.heap.size + 1, 2, none⟩) (by simp) _) _).trans (Mv.of_only (Only.set _ g 1 _) (by simp))
  replace hh1 : Has W (w.heap.size + 1) 102 #[.bool true, .string (S kh), .string (S et)] := by rw [← hW]; exact (((hh1.set 0 _).set 1 _).set 2 _).other (p := ⟨g, 1, none⟩) hgne.symm _
  replace hh0 : Has W w.heap.size 91 #[.bool true, .string (S ek), .string (S et), .string (S eo)] := by rw [← hW]; exact (((hh0.other (p := ⟨w.heap.size + 1, 0, none⟩) (by simp) _).other (p := ⟨w.heap.size + 1, 1, none⟩) (by simp) _).other (p := ⟨w.heap.size + 1, 2, none⟩) (by simp) _).other (p := ⟨g, 1, none⟩) (by simp; omega) _
  have ha5 : Asks W (some tb) l := HC.out.2.1.keep (fun b hb => by injection hb with hb; subst hb; exact hm5.block _ htlt (by simpa using htg))
  have hn5 : Noted W nb st.notes := HC.out.2.2.keep (hm5.block _ hnlt (by simpa using hgn.symm))
  have hlt1 := hh1.lt
  clear hW hwm m1 mf hy1 hy2 g0 g1 g2 e0 e1 e2 hb0
  have k0 : W.cell? ⟨g, 0, none⟩ = some (.map (some tb)) := hw5.cell 0
  have e0 : W.cell? ⟨w.heap.size + 1, 0, none⟩ = some (.bool true) := hh1.cell 0
  have e1 : W.cell? ⟨w.heap.size + 1, 1, none⟩ = some (.string (S kh)) := hh1.cell 1
  have e2 : W.cell? ⟨w.heap.size + 1, 2, none⟩ = some (.string (S et)) := hh1.cell 2
  have d3 : W.cell? ⟨w.heap.size, 3, none⟩ = some (.string (S eo)) := hh0.cell 3
  have tblt := ha5.lt
  have hgW := hw5.lt
  have hk1 := HASK.out W.drew (ha5.keep (fun _ _ => rfl))
  have hk2 := HASK.out ((W.alloc (.cells #[.string (S [])] 104)).drew) (ha5.keep (fun b hb => by injection hb with hb; subst hb; exact Below.heap_alloc _ _ _ tblt))
  go_region
  all_goals
    clear hk1 hk2
    go_upto_region 7 with (fail)
    generalize hW7 : World.drew (World.alloc W _) = W7
    have hm7 : Mv W W7 [tb] := by rw [← hW7]; exact ((Mv.refl W [tb]).alloc _).drew
    have hd7 : W7.drew.heap = W7.heap := rfl
    obtain ⟨w9, hrun, ha9, ho9⟩ := HPUT.out W7.drew (ha5.keep (fun b hb => by injection hb with hb; subst hb; rw [← hW7]; exact Below.heap_alloc _ _ _ tblt))
    have hh0' : Has W7 w.heap.size 91 #[.bool true, .string (S ek), .string (S et), .string (S eo)] := by rw [← hW7]; exact hh0.of_alloc _
    have hh1' : Has W7 (w.heap.size + 1) 102 #[.bool true, .string (S kh), .string (S et)] := by rw [← hW7]; exact hh1.of_alloc _
    have hw7 : Has W7 g 70 (millCells (some tb) nb (l ++ [e]) st) := by rw [← hW7]; exact hw5.of_alloc _
    have hn7 : Noted W7 nb st.notes := hn5.keep (by rw [← hW7]; exact Below.heap_alloc _ _ _ hn5.lt)
    have k0 : W7.cell? ⟨g, 0, none⟩ = some (.map (some tb)) := hw7.cell 0
    have e0 : W7.cell? ⟨w.heap.size + 1, 0, none⟩ = some (.bool true) := hh1'.cell 0
    have e1 : W7.cell? ⟨w.heap.size + 1, 1, none⟩ = some (.string (S kh)) := hh1'.cell 1
    have e2 : W7.cell? ⟨w.heap.size + 1, 2, none⟩ = some (.string (S et)) := hh1'.cell 2
    have d3 : W7.cell? ⟨w.heap.size, 3, none⟩ = some (.string (S eo)) := hh0'.cell 3
    have HF : Hid (MillTab w9 g nb tb (l ++ [e]) st ∧ Mv w w9 [g, tb]) := by
      have o9 := ho9.block
      refine ⟨hfin.out _ ?_ ha9 ?_, ?_⟩
      · exact (o9 g hw7.lt (fun e => htg (by injection e with e; exact e.symm))).trans hw7
      · exact hn7.keep (o9 nb hn7.lt (fun e => htn (by injection e with e; exact e.symm)))
      · exact ((hm5.wide (by simp)).trans (hm7.wide (by simp))).trans ((Mv.of_only ho9 (s := [tb]) (by simp)).from_drew.wide (by simp))
    clear hW7 hm7 hh0' hh1' hw7 hn7 hm5 hh0 hh1 hw5 ha5 hn5 ha9 ho9
    go_region
    all_goals
      go_wp2_with fail
      go_returns
      exact ⟨rfl, HF.out⟩

theorem enter_any (e : Mill.En) (g nb tb : Nat) (l : List Mill.En) (st : Mill.St) (w : World) (h : MillTab w g nb tb l st) (hk : e.key.length ≤ 5000000000000000) (ht : e.text.length ≤ 5000000000000000) (hT : Tabs w) (hg : 2 ≤ g) (hl : (l ++ [e]).length < maxLen) :
    Calls Tryd.prog 40 #[.pointer (some ⟨g, 0, none⟩), enVal e] w (EnterPost w g nb tb (l ++ [e]) st) := by
  unfold enVal
  cases htag : e.tag with
  | true =>
    cases hask : Mill.ask l e.inp with
    | some o => exact enter_11 e g nb tb l st w h hk ht hT hg hl htag (by rw [hask]; simp)
    | none => exact enter_10 e g nb tb l st w h hk ht hT hg hl htag hask
  | false =>
    cases hask : Mill.ask l e.inp with
    | some o => exact enter_01 e g nb tb l st w h hk ht hT hg hl htag (by rw [hask]; simp)
    | none => exact enter_00 e g nb tb l st w h hk ht hT hg hl htag hask
end Go.Proofs.YtgjknfphmmlcdaaDoor

namespace Go.Proofs.YtgjknfphmmlcdaaDoor
open Go.RowKit
set_option linter.unusedVariables false

theorem awakeMill_sum : hexs (Mill.tag [] [] []) = [98, 54, 49, 51, 54, 55, 57, 97, 48, 56, 49, 52, 100, 57, 101, 99, 55, 55, 50, 102, 57, 53, 100, 55, 55, 56, 99, 51, 53, 102, 99, 53, 102, 102, 49, 54, 57, 55, 99, 52, 57, 51, 55, 49, 53, 54, 53, 51, 99, 54, 99, 55, 49, 50, 49, 52, 52, 50, 57, 50, 99, 53, 97, 100] := by
  decide +kernel
end Go.Proofs.YtgjknfphmmlcdaaDoor

namespace Go.Proofs.YtgjknfphmmlcdaaDoor
open Go.RowKit
set_option linter.unusedVariables false

/-- A slice that reads as entries. -/
def Ents (w : World) (A : Option Addr) (l : List Mill.En) : Prop := l ≠ [] → ∃ b off, A = some ⟨b, off, none⟩ ∧ ∀ (i : Nat) (h : i < l.length),
  w.cell? ⟨b, off + i * 4, none⟩ = some (.bool (l[i]'h).tag) ∧ w.cell? ⟨b, off + i * 4 + 1, none⟩ = some (.string (S (l[i]'h).key)) ∧ w.cell? ⟨b, off + i * 4 + 2, none⟩ = some (.string (S (l[i]'h).text)) ∧ w.cell? ⟨b, off + i * 4 + 3, none⟩ = some (.string (S (l[i]'h).out))
theorem Ents.below {w w' : World} {A : Option Addr} {l : List Mill.En} (h : Ents w A l) (hb : Below w.heap.size w w') : Ents w' A l := fun hl => by
  obtain ⟨b, off, hA, hc⟩ := h hl
  have hlt : b < w.heap.size := World.block_lt_of_cell? w ⟨b, off + 0 * 4, none⟩ (hc 0 (List.length_pos_iff.2 hl)).1
  refine ⟨b, off, hA, fun i hi => ?_⟩
  obtain ⟨h0, h1, h2, h3⟩ := hc i hi
  exact ⟨(hb.cell (p := ⟨b, _, none⟩) hlt).trans h0, (hb.cell (p := ⟨b, _, none⟩) hlt).trans h1, (hb.cell (p := ⟨b, _, none⟩) hlt).trans h2, (hb.cell (p := ⟨b, _, none⟩) hlt).trans h3⟩
theorem Ents.take {w : World} {A : Option Addr} {l : List Mill.En} (h : Ents w A l) (k : Nat) : Ents w A (l.take k) := fun hl => by
  obtain ⟨b, off, hA, hc⟩ := h (by rintro rfl; simp at hl)
  refine ⟨b, off, hA, fun i hi => ?_⟩
  have hi' : i < l.length := by rw [List.length_take] at hi; omega
  rw [List.getElem_take]
  exact hc i hi'
/-- The bounds of what is read. -/
def Mill.fit (l : List Mill.En) : Prop := ∀ e ∈ l, e.key.length ≤ 1000000000000000 ∧ e.text.length ≤ 1000000000000000

theorem right_take (l : List Mill.En) (i : Nat) (h : i < l.length) : Mill.right (l.take (i + 1)) = (Mill.right (l.take i) && decide ((l[i]'h).out.length = 32)) := by
  unfold Mill.right
  rw [List.take_succ_eq_append_getElem h, List.all_append]; simp
theorem right_bad (l : List Mill.En) (i : Nat) (h : i < l.length) (hb : (l[i]'h).out.length ≠ 32) : Mill.right l = false := by
  unfold Mill.right
  rw [List.all_eq_false]
  exact ⟨l[i], List.getElem_mem h, by simpa using hb⟩

theorem ask_more (l : List Mill.En) (x : Mill.In) (k : Nat) (o : List UInt8) (h : Mill.ask (l.take k) x = some o) : Mill.ask l x = some o := by
  unfold Mill.ask at *
  have e : l = l.take k ++ l.drop k := (List.take_append_drop k l).symm
  rw [e, List.find?_append]
  cases hf : (l.take k).find? (fun e => e.inp = x) with
  | none => rw [hf] at h; simp at h
  | some y => rw [hf] at h; simpa using h
theorem ask_take (l : List Mill.En) (x : Mill.In) (i : Nat) (hi : i < l.length) (h : Mill.ask (l.take i) x = none) : Mill.ask (l.take (i + 1)) x = if (l[i]'hi).inp = x then some (l[i]'hi).out else none := by
  rw [List.take_succ_eq_append_getElem hi, Mill.ask_snoc, h]; simp

end Go.Proofs.YtgjknfphmmlcdaaDoor

namespace Go.Proofs.YtgjknfphmmlcdaaDoor
open Go.RowKit
set_option linter.unusedVariables false

def WithPost (w : World) (l : List Mill.En) (e : Ending) (w' : World) : Prop :=
  Below w.heap.size w w' ∧ ((Mill.right l = true ∧ e = .returned (.tuple #[.pointer (some ⟨w.heap.size + 1, 0, none⟩), .int .i64 0]) ∧ MillAt w' (w.heap.size + 1) w.heap.size l Mill.fresh) ∨
    (Mill.right l = false ∧ e = .returned (.tuple #[.pointer none, .int .i64 1])))

/-- The table's block has been made. -/
theorem tab_made {w w1 : World} {g nb : Nat} (h : Has w1 g 70 (millCells none nb [] Mill.fresh)) (hn : Noted w1 nb []) (hgn : g ≠ nb) :
    MillTab ((w1.setCell ⟨g, 0, none⟩ (.map (some w1.heap.size))).alloc (.map #[] 0)) g nb w1.heap.size [] Mill.fresh := by
  have hgl := h.lt
  have hnl := hn.lt
  have hs : (w1.setCell ⟨g, 0, none⟩ (.map (some w1.heap.size))).heap.size = w1.heap.size := by simp [World.setCell]
  have ham := Asks.made (w1.setCell ⟨g, 0, none⟩ (.map (some w1.heap.size)))
  rw [hs] at ham
  refine ⟨(h.set 0 _).of_alloc _, ham, hn.keep ?_, hgn, by omega, by omega, (show 0 < maxLen by decide)⟩
  exact (Below.heap_alloc _ _ _ (by rw [hs]; exact hnl)).trans (Below.heap_setCell _ _ _ _ (show nb ≠ g by omega))

set_option maxRecDepth 100000 in
set_option maxHeartbeats 4000000 in
theorem with_any (A : Option Addr) (l : List Mill.En) (cap : Nat) (hlen : l.length ≤ 1000000) (hfit : Mill.fit l) (w : World) (hE : Ents w A l) (hT : Tabs w) :
    Calls Tryd.prog 27 #[.slice A l.length cap] w (WithPost w l) := by
  have hmm := @run_makeMap Tryd.prog
  have hzE : ∀ W, (zeroValue 91).run Tryd.prog W = .ok (.agg #[.bool false, .string (S []), .string (S []), .string (S [])]) W := fun W => by kernel_rfl
  have HT := Lib.hid hT; clear hT
  have HE := Lib.hid hE; clear hE
  have HFIT := Lib.hid hfit; clear hfit
  have HLEN := Lib.hid hlen
  by_cases hl : l = []
  · subst hl
    go_enter Tryd.func27, Tryd.ntmps27
    go_wp2_with fail
    refine (newMill_any w).mono ?_
    rintro r1 w1 ⟨rfl, hM1, hb1, hs1, hh1⟩
    have k0 : w1.cell? ⟨w.heap.size + 1, 0, none⟩ = some (.map none) := hh1.cell 0
    have f0 := hh1.free 0
    have hgl := hh1.lt
    obtain ⟨tv, _, _, hn1, _⟩ := hM1
    have HTM := Lib.hid (tab_made (w := w) hh1 hn1 (by omega)); clear hn1 hh1
    have HS1 := Lib.hid hs1; clear hs1
    go_wp2_with fail
    refine wp_loop_rounds 1 ?_
    rw [rounds_succ]
    go_wp2_with fail
    go_ret2
    exact ⟨(hb1.setCell (p := ⟨w.heap.size + 1, 0, none⟩) (by simp) _).alloc (by simp [World.setCell]; have := HS1.out; omega) _, Or.inl ⟨rfl, rfl, HTM.out.at⟩⟩
  · obtain ⟨b, off, rfl, hc⟩ := HE.out hl
    have hblt : b < w.heap.size := World.block_lt_of_cell? w ⟨b, off + 0 * 4, none⟩ (hc 0 (List.length_pos_iff.2 hl)).1
    clear hl
    have HC := Lib.hid hc; clear hc
    go_enter Tryd.func27, Tryd.ntmps27
    go_wp2_with fail
    refine (newMill_any w).mono ?_
    rintro r1 w1 ⟨rfl, hM1, hb1, hs1, hh1⟩
    have k0 : w1.cell? ⟨w.heap.size + 1, 0, none⟩ = some (.map none) := hh1.cell 0
    have f0 := hh1.free 0
    have hgl := hh1.lt
    obtain ⟨tv, _, _, hn1, _⟩ := hM1
    have htm := tab_made (w := w) hh1 hn1 (by omega)
    have HS1 := Lib.hid hs1; clear hs1
    go_upto_region 3 with (fail)
    have hs1 := HS1.out
    have hb2 : Below w.heap.size w ((w1.setCell ⟨w.heap.size + 1, 0, none⟩ (.map (some w1.heap.size))).alloc (.map #[] 0)) := (hb1.setCell (p := ⟨w.heap.size + 1, 0, none⟩) (by simp) _).alloc (by simp [World.setCell]; omega) _
    have htb : w.heap.size ≤ w1.heap.size := by omega
    clear k0 f0 hn1 hh1 hb1 hs1
    generalize w1.heap.size = tb at htm hb2 htb ⊢
    generalize World.alloc (World.setCell w1 _ _) _ = W at htm hb2 ⊢
    go_wp2_with fail
    go_loopw [6, 14] (fun v6 v14 wr => ∃ i : Nat, i ≤ l.length ∧ v14 = .int .i64 i ∧ Mill.right (l.take i) = true ∧ MillTab wr (w.heap.size + 1) w.heap.size tb (l.take i) Mill.fresh ∧ Below w.heap.size w wr) (fun _ v14 _ => l.length - (intOf v14).toNat)
    case atStart => exact ⟨0, Nat.zero_le _, rfl, rfl, htm, hb2⟩
    case round =>
      obtain ⟨i, hi, rfl, hr, hm, hbr⟩ := hrel
      by_cases hlt : i < l.length
      · obtain ⟨c0, c1, c2, c3⟩ := HC.out i hlt
        have c0 := (hbr.cell (p := ⟨b, off + i * 4, none⟩) hblt).trans c0
        have c1 := (hbr.cell (p := ⟨b, off + i * 4 + 1, none⟩) hblt).trans c1
        have c2 := (hbr.cell (p := ⟨b, off + i * 4 + 2, none⟩) hblt).trans c2
        have c3 := (hbr.cell (p := ⟨b, off + i * 4 + 3, none⟩) hblt).trans c3
        have hbl := Nat.lt_of_lt_of_le hblt hbr.size
        have hi0 : (0 : Int) ≤ (i : Int) := by omega
        have hii : (i : Int) < (l.length : Int) := by omega
        have hrt := right_take l i hlt
        have hrb := right_bad l i hlt
        have hef := HFIT.out _ (List.getElem_mem hlt)
        have htk : l.take (i + 1) = l.take i ++ [l[i]'hlt] := List.take_succ_eq_append_getElem hlt
        have hEn : ∀ W, MillTab W (w.heap.size + 1) w.heap.size tb (l.take i) Mill.fresh → Tabs W → Calls Tryd.prog 40 #[.pointer (some ⟨w.heap.size + 1, 0, none⟩), enVal (l[i]'hlt)] W (EnterPost W (w.heap.size + 1) w.heap.size tb (l.take (i + 1)) Mill.fresh) := fun W h1 h2 => by
          rw [htk]
          have q1 := h2.2.2
          have q2 := HT.out.2.2
          have q3 : (1000000 : Nat) < maxLen := by decide
          have q4 := HLEN.out
          exact enter_any _ _ _ _ _ _ W h1 (by omega) (by omega) h2 (by omega) (by rw [← htk, List.length_take]; omega)
        generalize l[i]'hlt = e at c0 c1 c2 c3 hrt hrb hef hEn
        have HEN := Lib.hid hEn
        clear hEn htk hef
        by_cases h32 : e.out.length = 32
        · have hq : ((e.out.length : Int) != 32) = false := by rw [h32]; rfl
          have hq2 : ((e.out.length : Int) == 32) = true := by rw [h32]; rfl
          rw [hr, h32] at hrt
          have HRT := Lib.hid hrt
          clear hrb hrt
          have HM := Lib.hid (And.intro hm hbr); clear hm hbr hr
          go_wp2_with fail
          generalize hW : World.alloc wr _ = W1
          have hb1 : Below wr.heap.size wr W1 := by rw [← hW]; exact (Below.refl _ _).alloc (Nat.le_refl _) _
          clear hW
          refine (HEN.out W1 (HM.out.1.below hb1) (HT.out.below (HM.out.2.trans (hb1.mono HM.out.2.size)) HT.out.2.2)).mono ?_
          rintro r3 w3 ⟨rfl, hm3, hmv3⟩
          have HM3 := Lib.hid (And.intro hm3 (hmv3.below (HM.out.2.trans (hb1.mono HM.out.2.size)) (Nat.le_trans HM.out.2.size hb1.size) (by simp; omega)))
          clear hm3 hmv3 hb1
          go_wp2_with fail
          go_roundw
          case rel => exact ⟨i + 1, by omega, by go_num, by simpa using HRT.out, HM3.out.1, HM3.out.2⟩
          case measure => simp [intOf]; omega
        · have hq : ((e.out.length : Int) != 32) = true := by simp; omega
          have hq2 : ((e.out.length : Int) == 32) = false := by simp; omega
          have HRR := Lib.hid (hrb h32)
          clear hrb hrt h32
          go_wp2_with fail
          go_ret2
          exact ⟨hbr.alloc hbr.size _, Or.inr ⟨HRR.out, rfl⟩⟩
      · have hie : i = l.length := by omega
        have hii : ¬ (i : Int) < (l.length : Int) := by omega
        rw [hie, List.take_length] at hr hm
        have HR := Lib.hid hr; clear hr
        go_wp2_with fail
        go_ret2
        exact ⟨hbr, Or.inl ⟨HR.out, rfl, hm.at⟩⟩
end Go.Proofs.YtgjknfphmmlcdaaDoor

namespace Go.Proofs.YtgjknfphmmlcdaaDoor
open Go.ChangeShapes Go.WideShapes Go.ChangeAt Go.RowKit
set_option linter.unusedVariables false

theorem addr_flat {w : World} {a : Addr} {v : Value} (h : w.cell? a = some v) : a = ⟨a.block, a.off, none⟩ := by
  obtain ⟨b, o, s⟩ := a
  cases s with
  | none => rfl
  | some x => exfalso; unfold World.cell? at h; split at h <;> simp at h
theorem add_flat (b off i : Nat) : (⟨b, off, none⟩ : Addr).add i = ⟨b, off + i, none⟩ := by
  unfold Addr.add; split <;> simp_all

section
variable {H : Type} {enc : TypeId × Value → H} {W : World}
theorem weights_all {P : Program} {e : TypeId} {d : DataW H} {n : Nat} : ∀ {l : List (DataW H)}, d ∈ l → n ∈ d.weights P e → n ∈ DataW.weightsAll P e l
  | [], h, _ => by cases h
  | x :: r, h, hn => by
    rw [DataW.weightsAll]
    rcases List.mem_cons.1 h with rfl | h
    · exact List.mem_append_left _ hn
    · exact List.mem_append_right _ (weights_all h hn)
theorem weights_slice {P : Program} {t e : TypeId} (ht : P.underlying t = some (.slice e)) {el sp : List (DataW H)} {d : DataW H} (hd : d ∈ el) {n : Nat} (hn : n ∈ d.weights P e) : n ∈ (DataW.slice el sp).weights P t := by
  rw [DataW.weights, ht]
  exact List.mem_cons_of_mem _ (List.mem_append_left _ (weights_all hd hn))
theorem weights_len {P : Program} {t e : TypeId} (ht : P.underlying t = some (.slice e)) {el sp : List (DataW H)} : (el.length + sp.length) * P.bytesOf e ∈ (DataW.slice el sp).weights P t := by
  rw [DataW.weights, ht]
  exact List.mem_cons_self ..

set_option maxRecDepth 100000 in
theorem ent_open {fuel : Nat} {cs : List Value} {x : DataW H × List MemPlace} (a : Addr) (hc : W.cells? 0 a 4 = some cs) (h : DataW.trod enc Tryd.prog W 0 (fun _ => true) true fuel 91 cs = some x) :
    ∃ e : Mill.En, W.cell? a = some (.bool e.tag) ∧ W.cell? (a.add 1) = some (.string (S e.key)) ∧ W.cell? (a.add 2) = some (.string (S e.text)) ∧ W.cell? (a.add 3) = some (.string (S e.out)) ∧
      (e.key.length ∈ x.1.weights Tryd.prog 91) ∧ (e.text.length ∈ x.1.weights Tryd.prog 91) ∧ e.out.length ∈ x.1.weights Tryd.prog 91 := by
  obtain ⟨_, hcl, hat⟩ := World.cells?_some hc
  obtain ⟨ys, n', hn', hy, hlen, hyl, hf⟩ := DataW.trod_struct Tryd.underlying91 h
  match cs, hcl with
  | [c0, c1, c2, c3], _ =>
    match ys, hyl with
    | [y0, y1, y2, y3], _ =>
      have f0 : DataW.trod enc Tryd.prog W 0 (fun _ => true) true n' 4 (List.take (Tryd.prog.cellsOf 4) (List.drop 0 [c0, c1, c2, c3])) = some y0 := hf 0 _ rfl
      have f1 : DataW.trod enc Tryd.prog W 0 (fun _ => true) true n' 9 (List.take (Tryd.prog.cellsOf 9) (List.drop 1 [c0, c1, c2, c3])) = some y1 := hf 1 _ rfl
      have f2 : DataW.trod enc Tryd.prog W 0 (fun _ => true) true n' 9 (List.take (Tryd.prog.cellsOf 9) (List.drop 2 [c0, c1, c2, c3])) = some y2 := hf 2 _ rfl
      have f3 : DataW.trod enc Tryd.prog W 0 (fun _ => true) true n' 9 (List.take (Tryd.prog.cellsOf 9) (List.drop 3 [c0, c1, c2, c3])) = some y3 := hf 3 _ rfl
      rw [cellsBool] at f0
      rw [cellsStr] at f1 f2 f3
      obtain ⟨F, e0, x0⟩ := DataW.trod_bool Tryd.underlying4 f0
      obtain ⟨T1, e1, x1, _⟩ := DataW.trod_string Tryd.underlying9 f1
      obtain ⟨T2, e2, x2, _⟩ := DataW.trod_string Tryd.underlying9 f2
      obtain ⟨T3, e3, x3, _⟩ := DataW.trod_string Tryd.underlying9 f3
      have g0 := hat 0 (by omega)
      have g1 := hat 1 (by omega)
      have g2 := hat 2 (by omega)
      have g3 := hat 3 (by omega)
      simp at e0 e1 e2 e3 g0 g1 g2 g3
      subst e0; subst e1; subst e2; subst e3
      have hw : x.1.weights Tryd.prog 91 = DataW.weightsEach Tryd.prog [4, 9, 9, 9] [y0.1, y1.1, y2.1, y3.1] := by
        rw [hy]
        show (DataW.agg [y0.1, y1.1, y2.1, y3.1]).weights Tryd.prog 91 = _
        rw [DataW.weights, Tryd.underlying91]
        rfl
      rw [hw]
      refine ⟨⟨F, T1.data.toList, T2.data.toList, T3.data.toList⟩, by simpa [Addr.add] using g0, ?_, ?_, ?_, ?_, ?_, ?_⟩
      · rw [g1]; simp [S_of]
      · rw [g2]; simp [S_of]
      · rw [g3]; simp [S_of]
      · exact DataW.weights_mem_each (j := 1) (t := 9) (d := y1.1) rfl rfl _ (by rw [x1]; simp [DataW.weights])
      · exact DataW.weights_mem_each (j := 2) (t := 9) (d := y2.1) rfl rfl _ (by rw [x2]; simp [DataW.weights])
      · exact DataW.weights_mem_each (j := 3) (t := 9) (d := y3.1) rfl rfl _ (by rw [x3]; simp [DataW.weights])

set_option maxRecDepth 100000 in
theorem ents_open {A : Option Addr} {len cap fuel : Nat} {x : DataW H × List MemPlace} (h : DataW.trod enc Tryd.prog W 0 (fun _ => true) true fuel 58 [.slice A len cap] = some x)
    (hw : ∀ n ∈ x.1.weights Tryd.prog 58, n ≤ 1000000000000000) :
    ∃ l : List Mill.En, l.length = len ∧ Ents W A l ∧ Mill.fit l ∧ len ≤ cap ∧ cap ≤ maxLen := by
  rcases Deep.open_slice Tryd.underlying58 h with ⟨h0, _⟩ | ⟨a, len', cap', m, n, D, Pl, hcs, _, hlc, hcm, hm, hx, hi⟩
  · injection h0 with h0 _
    injection h0 with _ h1 h2
    subst h1; subst h2
    exact ⟨[], rfl, fun h => absurd rfl h, (fun e he => by cases he), Nat.le_refl _, Nat.zero_le _⟩
  · injection hcs with hcs _; injection hcs with hA hlen hcap
    subst hA; subst hlen; subst hcap
    have hm' : len ≤ m := by rw [hm]; simp; omega
    have hC : Tryd.prog.cellsOf 91 = 4 := by kernel_rfl
    have hone : ∀ i : Fin len, ∃ e : Mill.En, W.cell? (a.add (i.1 * 4)) = some (.bool e.tag) ∧ W.cell? ((a.add (i.1 * 4)).add 1) = some (.string (S e.key)) ∧ W.cell? ((a.add (i.1 * 4)).add 2) = some (.string (S e.text)) ∧ W.cell? ((a.add (i.1 * 4)).add 3) = some (.string (S e.out)) ∧
        e.key.length ≤ 1000000000000000 ∧ e.text.length ≤ 1000000000000000 := by
      intro i
      obtain ⟨cs', hc, ht⟩ := hi i.1 (by have := i.2; omega)
      rw [hC] at hc
      obtain ⟨e, h0, h1, h2, h3, w1, w2, _⟩ := ent_open _ hc ht
      have hmem : D i.1 ∈ (List.range len).map D := List.mem_map.2 ⟨i.1, List.mem_range.2 i.2, rfl⟩
      refine ⟨e, h0, h1, h2, h3, hw _ ?_, hw _ ?_⟩
      · rw [hx]; exact weights_slice Tryd.underlying58 hmem w1
      · rw [hx]; exact weights_slice Tryd.underlying58 hmem w2
    obtain ⟨f, hf⟩ : ∃ f : Fin len → Mill.En, ∀ i : Fin len, W.cell? (a.add (i.1 * 4)) = some (.bool (f i).tag) ∧ W.cell? ((a.add (i.1 * 4)).add 1) = some (.string (S (f i).key)) ∧ W.cell? ((a.add (i.1 * 4)).add 2) = some (.string (S (f i).text)) ∧ W.cell? ((a.add (i.1 * 4)).add 3) = some (.string (S (f i).out)) ∧
        (f i).key.length ≤ 1000000000000000 ∧ (f i).text.length ≤ 1000000000000000 := ⟨fun i => Classical.choose (hone i), fun i => Classical.choose_spec (hone i)⟩
    clear hone hi hx
    refine ⟨List.ofFn f, by simp, fun hne => ?_, fun e he => ?_, hlc, hcm⟩
    · have hpos : 0 < len := by
        rcases Nat.eq_zero_or_pos len with h0 | h0
        · subst h0; simp at hne
        · exact h0
      have h00 := (hf ⟨0, hpos⟩).1
      have ha : a = ⟨a.block, a.off, none⟩ := addr_flat (by simpa [Addr.add] using h00)
      refine ⟨a.block, a.off, by rw [← ha], fun i hi => ?_⟩
      have hi' : i < len := by simpa using hi
      obtain ⟨k0, k1, k2, k3, _⟩ := hf ⟨i, hi'⟩
      simp only [List.getElem_ofFn]
      clear hf h hm hcm hlc h00
      generalize a.block = b at ha
      generalize a.off = off at ha
      subst ha
      simp only [add_flat] at k0 k1 k2 k3
      exact ⟨k0, k1, k2, k3⟩
    · obtain ⟨i, rfl⟩ := (List.mem_ofFn ..).1 he
      exact (hf i).2.2.2.2
end
end Go.Proofs.YtgjknfphmmlcdaaDoor
