/-
  A script of puts, erasings and flushes, with a loss of power armed, purely: what holds behind each call. No program stands here.
-/
import Derived.Test.YthadcmbbdggneaaGreatDoorGrdWhole
namespace Go.Proofs.YthadcmbbdggneaaGreatDoor
set_option linter.unusedVariables false

namespace Grd
open Dsk (St Sec Fall)
/-- The stamp of the next sector that is put. -/
def stamp (boot wr : Nat) : Nat := boot * 4294967296 + wr + 1
/-- What Put answers (stamp, code), how many sectors were then written, and the disk. -/
def put (boot wr : Nat) (d : Dsk.St) (i : Int) (s : T) : Int × Int × Nat × Dsk.St :=
  if 47 < s.length then (0, 3, wr, d) else if wr = 4294967295 then (0, 6, wr, d)
  else if (Dsk.write d i (grd (stamp boot wr) s)).1 ≠ 0 then (0, (Dsk.write d i (grd (stamp boot wr) s)).1, wr, (Dsk.write d i (grd (stamp boot wr) s)).2)
  else ((stamp boot wr : Int), 0, wr + 1, (Dsk.write d i (grd (stamp boot wr) s)).2)

/-- What is read of a disk's sector. -/
def read (d : Dsk.St) (i : Int) : T × Int × Int :=
  if (Dsk.read d i).2 ≠ 0 then ([], 0, (Dsk.read d i).2) else ((rd (Dsk.read d i).1).1, ((rd (Dsk.read d i).1).2.1 : Int), (rd (Dsk.read d i).1).2.2)
theorem read_len {d : Dsk.St} (h : Dsk.Good d) (i : Int) (h0 : (Dsk.read d i).2 = 0) : (Dsk.read d i).1.length = 64 := by
  unfold Dsk.read at h0 ⊢
  by_cases hu : d.up = false
  · rw [if_pos hu] at h0
    cases h0
  · rw [if_neg hu] at h0 ⊢
    by_cases hi : ¬ (0 ≤ i ∧ i < (d.secs.length : Int))
    · rw [if_pos hi] at h0
      cases h0
    · rw [if_neg hi]
      have hi : 0 ≤ i ∧ i < (d.secs.length : Int) := Classical.not_not.1 hi
      have hl : i.toNat < d.secs.length := by omega
      show (((d.secs[i.toNat]?).map Dsk.Sec.now).getD []).length = 64
      rw [List.getElem?_eq_getElem hl, Option.map_some, Option.getD_some]
      have hf := h _ (List.getElem_mem hl)
      unfold Dsk.Sec.now
      split
      · rename_i p hp
        exact hf.2 p hp
      · exact hf.1
/-- The power is on. -/
structure WUp (L : List GOp) (f : Fall) (k done wr : Nat) (d : St) : Prop where
  up : d.up = true
  arm : ∀ n f', d.arm = some (n, f') → f' = f
  inv : Inv L k done (4294967296 + wr) d
  wr : wr ≤ k
  acts : d.acts ≤ k
  falls : d.falls = 0
/-- The power has gone, by f. -/
structure WDown (L : List GOp) (f : Fall) (k done : Nat) (d : St) : Prop where
  up : d.up = false
  acts : d.acts ≤ k
  falls : d.falls ≤ 1
  was : ∃ k0 n d0, k0 ≤ k ∧ Inv L k0 done n d0 ∧ d.secs = Dsk.fallGo f 0 d0.secs
def WInv (L : List GOp) (f : Fall) (k done wr : Nat) (d : St) : Prop := wr ≤ k ∧ (WUp L f k done wr d ∨ WDown L f k done d)
theorem WInv.acts {L : List GOp} {f : Fall} {k done wr : Nat} {d : St} (h : WInv L f k done wr d) : d.acts ≤ k := h.2.elim (·.acts) (·.acts)
theorem WInv.falls {L : List GOp} {f : Fall} {k done wr : Nat} {d : St} (h : WInv L f k done wr d) : d.falls ≤ 1 := h.2.elim (fun x => by rw [x.falls]; omega) (·.falls)
theorem WInv.ups {L : List GOp} {f : Fall} {k done wr : Nat} {d : St} (h : WInv L f k done wr d) (hu : d.up = true) : WUp L f k done wr d := h.2.elim id (fun x => by rw [x.up] at hu; cases hu)
theorem Inv.done_le {sc : List GOp} {k done n : Nat} {d : St} (h : Inv sc k done n d) : done ≤ k := h.2.1
theorem WInv.done_le {L : List GOp} {f : Fall} {k done wr : Nat} {d : St} (h : WInv L f k done wr d) : done ≤ k := h.2.elim (fun x => x.inv.done_le) (fun x => by
  obtain ⟨k0, n, d0, h1, h2, _⟩ := x.was
  have := h2.done_le
  omega)
theorem w_act {L : List GOp} {f : Fall} {k done wr : Nat} {d : St} (h : WUp L f k done wr d) :
    ((Dsk.act d).1 = false ∧ WDown L f (k + 1) done (Dsk.act d).2) ∨
    ((Dsk.act d).1 = true ∧ (Dsk.act d).2.secs = d.secs ∧ (Dsk.act d).2.up = true ∧ (∀ n f', (Dsk.act d).2.arm = some (n, f') → f' = f) ∧ (Dsk.act d).2.acts ≤ k + 1 ∧ (Dsk.act d).2.falls = 0) := by
  have h1 := h.acts
  have h2 := h.falls
  cases ha : d.arm with
  | none =>
    right
    have e : Dsk.act d = (true, { d with acts := d.acts + 1 }) := by unfold Dsk.act; rw [ha]
    rw [e]
    exact ⟨rfl, rfl, h.up, fun n f' h' => h.arm n f' h', by show d.acts + 1 ≤ k + 1; omega, h.falls⟩
  | some p =>
    obtain ⟨n, f'⟩ := p
    have hf := h.arm n f' ha
    subst hf
    cases n with
    | zero =>
      left
      have e : Dsk.act d = (false, Dsk.fall f' d) := by unfold Dsk.act; rw [ha]
      rw [e]
      exact ⟨rfl, rfl, by show d.acts ≤ k + 1; omega, by show d.falls + 1 ≤ 1; omega, k, _, d, by omega, h.inv, rfl⟩
    | succ n =>
      right
      have e : Dsk.act d = (true, { d with arm := some (n, f'), acts := d.acts + 1 }) := by unfold Dsk.act; rw [ha]
      rw [e]
      refine ⟨rfl, rfl, h.up, fun n2 f2 h' => ?_, by show d.acts + 1 ≤ k + 1; omega, h.falls⟩
      have h'' : some (n, f') = some (n2, f2) := h'
      injection h'' with h''
      injection h'' with _ h''
      exact h''.symm
theorem w_flush {L : List GOp} {f : Fall} {k done wr : Nat} {d : St} (h : WUp L f k done wr d) {o : GOp} (ho : L[k]? = some o) (hk : o.kind = 1) :
    ((Dsk.flush d).1 = 0 ∧ WInv L f (k + 1) (k + 1) wr (Dsk.flush d).2) ∨ ((Dsk.flush d).1 = 8 ∧ WInv L f (k + 1) done wr (Dsk.flush d).2) := by
  have hwr := h.wr
  have e : Dsk.flush d = if (Dsk.act d).1 = false then (8, (Dsk.act d).2) else (0, { (Dsk.act d).2 with secs := (Dsk.act d).2.secs.map Dsk.flushed }) := by
    unfold Dsk.flush
    rw [if_neg (by rw [h.up]; decide)]
  rcases w_act h with ⟨a, b⟩ | ⟨a, b1, b2, b3, b4, b5⟩
  · right
    rw [e, if_pos a]
    exact ⟨rfl, by omega, Or.inr b⟩
  · left
    rw [e, if_neg (by rw [a]; decide)]
    refine ⟨rfl, by omega, Or.inl ⟨b2, b3, inv_flush h.inv ho hk (by show (Dsk.act d).2.secs.map _ = _; rw [b1]), by omega, b4, b5⟩⟩
/-- Bytes are written. -/
theorem w_write {L : List GOp} {f : Fall} {k done wr wr' : Nat} {d : St} (h : WUp L f k done wr d) {o : GOp} (ho : L[k]? = some o) {b : T} (h64 : b.length = 64)
    (hv : ∀ j : Nat, valid o j = decide (o.i = (j : Int))) (hf : Fits o b) (hw : wr ≤ wr') (hw' : wr' ≤ wr + 1) (hn : ∀ a s, b = grd a s → Stm a → 4294967296 + wr < a) (hb : StB (4294967296 + wr') b) :
    ((Dsk.write d o.i b).1 = 0 ∧ WInv L f (k + 1) done wr' (Dsk.write d o.i b).2) ∨ ((Dsk.write d o.i b).1 ≠ 0 ∧ WInv L f (k + 1) done wr (Dsk.write d o.i b).2) := by
  have hwr := h.wr
  have hacts := h.acts
  have hlen := h.inv.1
  by_cases hi : 0 ≤ o.i ∧ o.i < (d.secs.length : Int)
  · have e : Dsk.write d o.i b = if (Dsk.act d).1 = false then (8, (Dsk.act d).2) else (0, Dsk.put (Dsk.act d).2 o.i.toNat b) := by
      unfold Dsk.write
      rw [if_neg (by rw [h.up]; decide), if_neg (fun hn => hn hi), if_neg (by omega)]
    rcases w_act h with ⟨a, b0⟩ | ⟨a, b1, b2, b3, b4, b5⟩
    · right
      rw [e, if_pos a]
      exact ⟨show (8 : Int) ≠ 0 by decide, by omega, Or.inr b0⟩
    · left
      rw [e, if_neg (by rw [a]; decide)]
      refine ⟨rfl, by omega, Or.inl ⟨b2, b3, ?_, by omega, b4, b5⟩⟩
      have hj : o.i.toNat < 10 := by omega
      exact inv_write h.inv ho hj (by rw [hv]; exact decide_eq_true (by omega)) hf hn hb (by omega) (at_ := (Dsk.act d).2.acts) (by
        show (Dsk.act d).2.secs.modify _ _ = _
        rw [b1])
  · right
    have e : Dsk.write d o.i b = (5, d) := by
      unfold Dsk.write
      rw [if_neg (by rw [h.up]; decide), if_pos hi]
    rw [e]
    refine ⟨show (5 : Int) ≠ 0 by decide, by omega, Or.inl ⟨h.up, h.arm, inv_skip h.inv ho (fun j hj => ?_) (Nat.le_refl _) rfl, by omega, by show d.acts ≤ k + 1; omega, h.falls⟩⟩
    rw [hv]
    exact decide_eq_false (by omega)
theorem w_erase {L : List GOp} {f : Fall} {k done wr : Nat} {d : St} (h : WUp L f k done wr d) {o : GOp} (ho : L[k]? = some o) (hk : o.kind = 0) : WInv L f (k + 1) done wr (Dsk.write d o.i noughts).2 := by
  have hw := w_write (wr' := wr) h ho noughts_len (fun j => by unfold valid; rw [hk]; simp) (Or.inl ⟨hk, rfl⟩) (Nat.le_refl _) (by omega) (fun a s e ha => absurd e.symm (grd_ne ha)) (fun a s e ha => absurd e.symm (grd_ne ha))
  exact hw.elim (·.2) (·.2)
theorem w_put {L : List GOp} {f : Fall} {k done wr : Nat} {d : St} (h : WUp L f k done wr d) (hk40 : k < 40) {o : GOp} (ho : L[k]? = some o) (hk : o.kind ≠ 0) (hk1 : o.kind ≠ 1) : WInv L f (k + 1) done (put 1 wr d o.i o.s).2.2.1 (put 1 wr d o.i o.s).2.2.2 := by
  have hwr := h.wr
  have hacts := h.acts
  unfold put
  by_cases hl : 47 < o.s.length
  · rw [if_pos hl]
    refine ⟨by show wr ≤ k + 1; omega, Or.inl ⟨h.up, h.arm, inv_skip h.inv ho (fun j hj => ?_) (Nat.le_refl _) rfl, by show wr ≤ k + 1; omega, by show d.acts ≤ k + 1; omega, h.falls⟩⟩
    unfold valid
    rw [decide_eq_false hk, decide_eq_false (show ¬ o.s.length ≤ 47 by omega)]
    simp
  · rw [if_neg hl, if_neg (by omega)]
    have hs : stamp 1 wr = 4294967296 + wr + 1 := by unfold stamp; omega
    have hst : Stm (stamp 1 wr) := ⟨by omega, by omega⟩
    have hl' : o.s.length ≤ 47 := by omega
    have hw := w_write (wr' := wr + 1) (b := grd (stamp 1 wr) o.s) h ho (grd_len hl') (fun j => by
      unfold valid
      rw [decide_eq_true hl', decide_eq_true hk1]
      simp) (Or.inr ⟨hk, hk1, hl', _, hst, rfl⟩) (by omega) (Nat.le_refl _) (fun a s e ha => by
      have := grd_inj hst ha e
      omega) (fun a s e ha => by
      have := grd_inj hst ha e
      omega)
    rcases hw with ⟨a, b⟩ | ⟨a, b⟩
    · rw [if_neg (fun hn => hn a)]
      exact b
    · rw [if_pos a]
      exact b
/-- The beginning. -/
theorem w_start (L : List GOp) (f : Fall) (n : Nat) (d : St) (hs : d.secs = (Dsk.fresh 10).secs) (hu : d.up = true) (ha : d.acts = 0) (hf : d.falls = 0) (harm : d.arm = some (n, f)) : WInv L f 0 0 0 d :=
  ⟨Nat.le_refl _, Or.inl ⟨hu, fun n' f' h => by rw [harm] at h; injection h with h; injection h with _ h; exact h.symm, inv_start L _ d hs, Nat.le_refl _, by omega, hf⟩⟩
/-- The power goes, if it has not gone. -/
theorem w_crash {L : List GOp} {f : Fall} {k done wr : Nat} {d : St} (h : WInv L f k done wr d) :
    (Dsk.crash d f).2.up = false ∧ (Dsk.crash d f).2.acts ≤ k ∧ (Dsk.crash d f).2.falls ≤ 1 ∧ ∃ k0 n d0, k0 ≤ k ∧ Inv L k0 done n d0 ∧ (Dsk.crash d f).2.secs = Dsk.fallGo f 0 d0.secs := by
  rcases h.2 with hu | hd
  · have e : Dsk.crash d f = (0, Dsk.fall f d) := by unfold Dsk.crash; rw [if_neg (by rw [hu.up]; decide)]
    rw [e]
    exact ⟨rfl, hu.acts, by show d.falls + 1 ≤ 1; rw [hu.falls]; omega, k, _, d, Nat.le_refl _, hu.inv, rfl⟩
  · have e : Dsk.crash d f = (8, d) := by unfold Dsk.crash; rw [if_pos hd.up]
    rw [e]
    exact ⟨hd.up, hd.acts, hd.falls, hd.was⟩
end Grd
end Go.Proofs.YthadcmbbdggneaaGreatDoor
