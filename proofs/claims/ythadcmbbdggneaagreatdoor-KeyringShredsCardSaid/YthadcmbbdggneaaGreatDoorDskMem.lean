/-
  A disk in memory: its sectors' row, the map of what waits, its own cells.
-/
import Derived.Test.YthadcmbbdggneaaGreatDoorDskFall
import Derived.Test.YthadcmbbdggneaaGreatDoorMv
import Derived.Test.YthadcmbbdggneaaGreatDoorProg
import Derived.Maps.OwnSet
import Derived.Maps.RangeWalk
namespace Go.Proofs.YthadcmbbdggneaaGreatDoor
open Go.RowKit Go.ChangeMaps Go.MapKept
open Go.Maps (Keyed IsMap Tidy has)
set_option linter.unusedVariables false

/-! ### a sector's cells -/
def secVals (s : List UInt8) (a : Nat) : List Value := bcells s ++ [.int .i64 (a : Int)]
abbrev secV (s : List UInt8) (a : Nat) : Array Value := (secVals s a).toArray
theorem bcells_len (s : List UInt8) : (bcells s).length = s.length := by simp [bcells]
theorem secVals_len {s : List UInt8} {a : Nat} (h : s.length = 64) : (secVals s a).length = 65 := by simp [secVals, bcells_len, h]
theorem secV_size {s : List UInt8} {a : Nat} (h : s.length = 64) : (secV s a).size = 65 := secVals_len h
theorem secVals_one (s : List UInt8) (a : Nat) : ∀ v ∈ secVals s a, v.oneCell' = true := by
  intro v hv
  unfold secVals bcells at hv
  rcases List.mem_append.1 hv with h | h
  · obtain ⟨c, _, rfl⟩ := List.mem_map.1 h; rfl
  · rw [List.mem_singleton.1 h]; rfl
theorem secV_one (s : List UInt8) (a : Nat) : (secV s a).all (·.oneCell') = true := all_oneCell_toArray (secVals_one s a)
theorem secVals_byte {s : List UInt8} {a i : Nat} (h : i < s.length) : (secVals s a)[i]? = (bcells s)[i]? := by
  unfold secVals
  rw [List.getElem?_append_left (by rw [bcells_len]; exact h)]
theorem secVals_stamp {s : List UInt8} {a : Nat} (h : s.length = 64) : (secVals s a)[64]? = some (.int .i64 (a : Int)) := by
  unfold secVals
  rw [List.getElem?_append_right (by rw [bcells_len]; omega), bcells_len, h]
  rfl
theorem secSize : (Tryz.prog.info? 87).map (·.size) = some 65 := by kernel_rfl
theorem secSz {s : List UInt8} {a : Nat} (h : s.length = 64) : (Tryz.prog.info? 87).map (·.size) = some (secVals s a).length := by rw [secVals_len h]; exact secSize
theorem secSzA {s : List UInt8} {a : Nat} (h : s.length = 64) : (Tryz.prog.info? 87).map (·.size) = some (secV s a).size := secSz h
set_option maxRecDepth 100000 in
theorem zeroSec (w : World) : (zeroValue 87).run Tryz.prog w = .ok (.agg (secV (List.replicate 64 0) 0)) w := by kernel_rfl

/-! ### the row of sectors -/
def Rows (w : World) (bd : Nat) (L : List Dsk.Sec) : Prop :=
  ∃ cs, Has w bd 87 cs ∧ cs.size = L.length * 65 ∧ ∀ i s, L[i]? = some s → w.rangeAt bd (i * 65) (secVals s.sure s.at_)
theorem Rows.lt {w : World} {bd : Nat} {L : List Dsk.Sec} (h : Rows w bd L) : bd < w.heap.size := by
  obtain ⟨cs, h1, _⟩ := h
  exact h1.lt
theorem Rows.keep {w w' : World} {bd : Nat} {L : List Dsk.Sec} (h : Rows w bd L) (hb : w'.heap[bd]? = w.heap[bd]?) : Rows w' bd L := by
  obtain ⟨cs, h1, h2, h3⟩ := h
  exact ⟨cs, hb.trans h1, h2, fun i s hs => rangeAt_keep (h3 i s hs) hb⟩
theorem Rows.at {w : World} {bd : Nat} {L : List Dsk.Sec} (h : Rows w bd L) {i : Nat} {s : Dsk.Sec} (hs : L[i]? = some s) : w.rangeAt bd (i * 65) (secVals s.sure s.at_) := by
  obtain ⟨cs, h1, h2, h3⟩ := h
  exact h3 i s hs
theorem Rows.there {w : World} {bd : Nat} {L : List Dsk.Sec} (h : Rows w bd L) {i : Nat} (hi : i < L.length) : w.there bd (i * 65) 65 := by
  obtain ⟨cs, h1, h2, _⟩ := h
  exact h1.there (by rw [h2]; omega)
/-- A sector is stored. -/
theorem Rows.store {w : World} {bd : Nat} {L : List Dsk.Sec} (h : Rows w bd L) {i : Nat} (hi : i < L.length) (x : Dsk.Sec) (hx : x.sure.length = 64) (hL : ∀ s ∈ L, s.sure.length = 64) :
    Rows (w.setCells bd (i * 65) (secVals x.sure x.at_)) bd (L.set i x) := by
  have hth := h.there hi
  obtain ⟨cs, h1, h2, h3⟩ := h
  obtain ⟨cs', h4, h5⟩ := Has.setCells (secVals x.sure x.at_) (i * 65) w cs h1
  refine ⟨cs', h4, by rw [h5, h2, List.length_set], fun j s hs => ?_⟩
  rw [List.getElem?_set] at hs
  by_cases hj : i = j
  · subst hj
    rw [if_pos rfl, if_pos hi] at hs
    injection hs with hs
    subst hs
    exact World.rangeAt_setCells_same w bd _ _ (by rw [secVals_len hx]; exact hth)
  · rw [if_neg hj] at hs
    have hl : s.sure.length = 64 := hL s (List.mem_of_getElem? hs)
    refine World.rangeAt_setCells_apart (h3 j s hs) bd _ _ (Or.inr ?_)
    rw [secVals_len hl, secVals_len hx]
    omega
theorem Rows.sub {w : World} {bd : Nat} {L M : List Dsk.Sec} (h : Rows w bd L) (hl : M.length = L.length) (hM : ∀ (i : Nat) (s : Dsk.Sec), M[i]? = some s → ∃ x : Dsk.Sec, L[i]? = some x ∧ x.sure = s.sure ∧ x.at_ = s.at_) : Rows w bd M := by
  obtain ⟨cs, h1, h2, h3⟩ := h
  refine ⟨cs, h1, by rw [h2, hl], fun i s hs => ?_⟩
  obtain ⟨x, hx, e1, e2⟩ := hM i s hs
  have := h3 i x hx
  rw [e1, e2] at this
  exact this

/-! ### the map of what waits -/
def heldE : Value → Option (DataW (Array Value) × List MemPlace)
  | .agg cs => some (.held cs, [])
  | _ => none
theorem heldE_mk (cs : Array Value) : heldE (.agg cs) = some (.held cs, []) := rfl
theorem heldE_inv {v : Value} {cs : Array Value} {ps : List MemPlace} (h : heldE v = some (.held cs, ps)) : v = .agg cs := by
  unfold heldE at h
  split at h
  · injection h with h
    injection h with h1 h2
    injection h1 with h1
    rw [h1]
  · cases h
theorem heldE_shape {v : Value} {y : DataW (Array Value) × List MemPlace} (h : heldE v = some y) : ∃ cs, v = .agg cs := by
  unfold heldE at h
  split at h
  · exact ⟨_, rfl⟩
  · cases h
theorem lawInt : Keyed Tryz.prog 3 := Go.Maps.int_keyed Tryz.underlying3
theorem keyInt {x : Int} (h : (Lit.int .i64 x).wf = true) : keyOf Tryz.prog 3 (.int .i64 x) = some (.int .i64 x) := Go.Maps.keyOf_int_mk Tryz.underlying3 h
theorem wfi {x : Int} (h1 : -9223372036854775808 ≤ x) (h2 : x ≤ 9223372036854775807) : (Lit.int .i64 x).wf = true := WalkArith.wf_i64 ⟨h1, by omega⟩
theorem wfn {i : Nat} (h : i ≤ 1000000) : (Lit.int .i64 (i : Int)).wf = true := wfi (by omega) (by omega)

abbrev PQ := Int → Option (List UInt8 × Nat)
/-- Map mb reads as D, and D says what waits. -/
def Says (D : DataW (Array Value)) (q : PQ) : Prop :=
  ∀ x : Int, (Lit.int .i64 x).wf = true → has D (.int .i64 x) = (q x).isSome ∧ ∀ z, D.atKey (.int .i64 x) z = (match q x with | some p => .held (secV p.1 p.2) | none => z)
def Pend (w : World) (mb n : Nat) (q : PQ) : Prop := ∃ D : DataW (Array Value), w.ownsMap Tryz.prog 3 heldE mb n D ∧ Says D q
theorem Pend.keep {w w' : World} {mb n : Nat} {q : PQ} (h : Pend w mb n q) (hb : w'.heap[mb]? = w.heap[mb]?) : Pend w' mb n q := by
  obtain ⟨D, ⟨es, clock, h1, h2⟩, h3⟩ := h
  exact ⟨D, ⟨es, clock, hb.trans h1, h2⟩, h3⟩
theorem Pend.lt {w : World} {mb n : Nat} {q : PQ} (h : Pend w mb n q) : mb < w.heap.size := by
  obtain ⟨D, h1, _⟩ := h
  exact h1.lt
theorem Pend.mono {w : World} {mb n m : Nat} {q : PQ} (h : Pend w mb n q) (hm : n ≤ m) : Pend w mb m q := by
  obtain ⟨D, h1, h2⟩ := h
  exact ⟨D, h1.mono hm, h2⟩
theorem Pend.same {w : World} {mb n : Nat} {q q' : PQ} (h : Pend w mb n q) (hq : ∀ x, q' x = q x) : Pend w mb n q' := by
  obtain rfl : q' = q := funext hq
  exact h
theorem Pend.made (w : World) : Pend (w.alloc (.map #[] 0)) w.heap.size 0 (fun _ => none) :=
  ⟨.map [], World.ownsMap_made w _ _ _, fun x _ => ⟨rfl, fun z => rfl⟩⟩
/-- What a look-up finds. -/
def found (q : PQ) (x : Int) : Array Value := match q x with | some p => secV p.1 p.2 | none => secV (List.replicate 64 0) 0
theorem Pend.look_ok {w : World} {mb n : Nat} {q : PQ} (h : Pend w mb n q) {x : Int} (hx : (Lit.int .i64 x).wf = true) :
    (Instr.lookup 73 (.map (some mb)) (.int .i64 x) true).run Tryz.prog w = .ok (.tuple #[.agg (found q x), .bool (q x).isSome]) w := by
  obtain ⟨D, hown, hD⟩ := h
  obtain ⟨hh, ha⟩ := hD x hx
  obtain ⟨v, ps, hrun, hv⟩ := hown.look_ok lawInt Tryz.underlying73 (zeroSec w) (heldE_mk _) (keyInt hx)
  rw [hrun, hh]
  rw [ha] at hv
  unfold found
  cases hq : q x with
  | none => rw [hq] at hv; rw [heldE_inv hv]
  | some p => rw [hq] at hv; rw [heldE_inv hv]
theorem Pend.look {w : World} {mb n : Nat} {q : PQ} (h : Pend w mb n q) {x : Int} (hx : (Lit.int .i64 x).wf = true) {p : List UInt8 × Nat} (hq : q x = some p) :
    (Instr.lookup 73 (.map (some mb)) (.int .i64 x) false).run Tryz.prog w = .ok (.agg (secV p.1 p.2)) w := by
  obtain ⟨D, ⟨es, clock, hb, F, hs, rfl⟩, hD⟩ := h
  obtain ⟨hh, ha⟩ := hD x hx
  rw [hq] at ha
  rcases Go.Maps.fit_look false lawInt Tryz.underlying73 (zeroSec w) hb F (keyInt hx) with ⟨_, _, hat⟩ | ⟨e0, y, _, _, hrun, hv, hat, _⟩
  · have h1 := ha .nil
    rw [hat] at h1
    cases h1
  · rw [hrun]
    have h1 := ha .nil
    rw [hat] at h1
    obtain ⟨y1, y2⟩ := y
    dsimp only at h1
    subst h1
    rw [heldE_inv hv]
    rfl
theorem keyIntLit (x : Int) : Go.WideAt.IsKeyLit (.int .i64 x) := trivial
theorem Pend.put {w : World} {mb n : Nat} {q : PQ} (h : Pend w mb n q) {x : Int} (hx : (Lit.int .i64 x).wf = true) (p : List UInt8 × Nat) (hn : n < maxLen) :
    ∃ w', (Instr.mapUpdate 73 (.map (some mb)) (.int .i64 x) (.agg (secV p.1 p.2))).run Tryz.prog w = .ok () w' ∧ Pend w' mb (n + 1) (fun y => if y = x then some p else q y) ∧ Only w w' mb := by
  obtain ⟨D, hown, hD⟩ := h
  obtain ⟨w', hrun, hown', hmv⟩ := hown.store lawInt Tryz.underlying73 hn (keyInt hx) (heldE_mk (secV p.1 p.2))
  refine ⟨w', hrun, ⟨_, hown', fun y hy => ?_⟩, hmv.grown⟩
  by_cases hi : y = x
  · subst hi
    dsimp only
    rw [if_pos rfl]
    refine ⟨?_, fun z => ?_⟩
    · rw [Go.Maps.has_put_same hown.isMap (keyIntLit y)]; rfl
    · rw [Go.Maps.atKey_put_same hown.isMap (keyIntLit y)]
  · have hne : Lit.int .i64 y ≠ Lit.int .i64 x := fun hh => hi (by injection hh)
    obtain ⟨q1, q2⟩ := hD y hy
    dsimp only
    rw [if_neg hi]
    refine ⟨?_, fun z => ?_⟩
    · rw [Go.Maps.has_put_other hne, q1]
    · rw [Go.Maps.atKey_put_other hne, q2]
theorem clear_map {P : Program} {t ty k e : TypeId} {w : World} {b : Nat} {es : Array MapEntry} {clock : Nat} (ht : P.underlying t = some (.map k e)) (hb : w.heap[b]? = some (.map es clock)) :
    (Builtin.clear_ #[t] ty #[.map (some b)]).run P w = .ok (.tuple #[]) (setBlock w b (.map #[] clock)) := by
  simp [Builtin.clear_, run_underlying ht, Go.MapKept.run_getObj_map hb, Go.MapKept.run_setObj_map _ hb, Result.andThen, setBlock]
theorem Pend.clear {w : World} {mb n : Nat} {q : PQ} (h : Pend w mb n q) :
    ∃ w', (∀ ty, (Builtin.clear_ #[73] ty #[.map (some mb)]).run Tryz.prog w = .ok (.tuple #[]) w') ∧ Pend w' mb 0 (fun _ => none) ∧ Only w w' mb := by
  obtain ⟨D, ⟨es, clock, hb, F, hs, rfl⟩, hD⟩ := h
  refine ⟨_, fun ty => clear_map Tryz.underlying73 hb, ⟨.map [], ⟨#[], clock, heap_setBlock_same hb _, ⟨by simp, stamped_empty clock, by simp⟩, Nat.le_refl _, rfl⟩, fun x _ => ⟨rfl, fun z => rfl⟩⟩, ?_⟩
  exact ⟨rfl, rfl, rfl, by simp [setBlock], fun i _ hi => heap_setBlock_other hb _ (fun e => hi (by rw [e]))⟩
/-- The keys, sorted, are the places that wait. -/
theorem Says.perm {w : World} {mb n : Nat} {D : DataW (Array Value)} {L : List Dsk.Sec} (hown : w.ownsMap Tryz.prog 3 heldE mb n D) (h : Says D (Dsk.pendI L)) (hL : L.length ≤ 1000000) :
    ((Dsk.waits L).map (fun i : Nat => (i : Int))).Perm (intKeys D) := by
  obtain ⟨es, hD, hpw, _⟩ := hown.entries lawInt
  have hint : ∀ p ∈ es, ∃ x, p.1 = .int .i64 x ∧ (Lit.int .i64 x).wf = true := by
    intro p hp'
    obtain ⟨es', hD', hk'⟩ := hown.keysOf
    rw [hD] at hD'
    injection hD' with hD'
    rw [hD'] at hp'
    obtain ⟨key, hkey⟩ := hk' p hp'
    obtain ⟨x, _, hx, hw⟩ := Maps.keyOf_i64 Tryz.underlying3 hkey
    exact ⟨x, hx, hw⟩
  · rw [hD]
    refine perm_intKeys hpw (fun p hp' => ?_) (Dsk.waitsI_nodup L) fun x => ?_
    · obtain ⟨x, hx, _⟩ := hint p hp'; exact ⟨x, hx⟩
    · rw [Dsk.mem_waitsI]
      by_cases hx : (Lit.int .i64 x).wf = true
      · rw [← hD, (h x hx).1]
      · constructor
        · intro hh
          exfalso
          apply hx
          obtain ⟨i, hi, rfl⟩ := List.mem_map.1 ((Dsk.mem_waitsI L x).2 hh)
          have hlt : i < L.length := by
            have := (Dsk.waits_mem L i).1 hi
            refine Nat.lt_of_not_le fun hge => ?_
            rw [List.getElem?_eq_none hge] at this
            cases this
          exact wfn (by omega)
        · intro hh
          exfalso
          apply hx
          rw [Go.Maps.has_eq, List.any_eq_true] at hh
          obtain ⟨p, hp', he⟩ := hh
          obtain ⟨y, hy, hw⟩ := hint p hp'
          rw [hy] at he
          have := Go.WideAt.sameKey_eq he
          injection this with _ this
          rw [← this]; exact hw
theorem Says.keys {w : World} {mb n : Nat} {D : DataW (Array Value)} {L : List Dsk.Sec} (hown : w.ownsMap Tryz.prog 3 heldE mb n D) (h : Says D (Dsk.pendI L)) (hL : L.length ≤ 1000000) {ss : List Int} (hp : ss.Perm (intKeys D)) :
    ss.mergeSort leI = (Dsk.waits L).map (fun i : Nat => (i : Int)) := by
  rw [mergeSort_of_perm_i (hp.trans (h.perm hown hL).symm), Dsk.waitsI_sorted]
theorem own_tight {H : Type} {P : Program} {k : TypeId} {R : Value → Option (DataW H × List MemPlace)} {w : World} {b n : Nat} {D : DataW H} (h : w.ownsMap P k R b n D) : w.ownsMap P k R b (Go.Maps.size D) D := by
  obtain ⟨es, clock, hb, F, hs, rfl⟩ := h
  exact ⟨es, clock, hb, F, by simp [Go.Maps.size, length_sorted], rfl⟩
/-- No more wait than there are sectors. -/
theorem Pend.tight {w : World} {mb n : Nat} {L : List Dsk.Sec} (h : Pend w mb n (Dsk.pendI L)) (hL : L.length ≤ 8192) : Pend w mb 8192 (Dsk.pendI L) := by
  obtain ⟨D, hown, hD⟩ := h
  have hp := (hD.perm hown (by omega)).length_eq
  have hl := Dsk.waits_len L
  rw [List.length_map] at hp
  have hs : Go.Maps.size D = (intKeys D).length := by
    obtain ⟨es, he, _⟩ := hown.entries lawInt
    rw [he]
    exact (List.length_map _).symm
  exact ⟨D, (own_tight hown).mono (by omega), hD⟩
end Go.Proofs.YthadcmbbdggneaaGreatDoor
