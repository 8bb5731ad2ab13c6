/-
  Which superblock is loaded of two sectors that were put, purely.
-/
import Derived.Test.YtdgfohffmbnjiaaGreatDoorGrdPures
import Derived.Test.YtdgfohffmbnjiaaGreatDoorSupLaw
namespace Go.Proofs.YtdgfohffmbnjiaaGreatDoor
set_option linter.unusedVariables false

namespace Sup
open Dsk (St)
def pa (a : T) : St := Dsk.put { Dsk.fresh 4 with acts := 1 } 0 (Grd.grd (Grd.stamp 1 0) a)
def pb (a b : T) : St := Dsk.put { pa a with acts := 2 } 1 (Grd.grd (Grd.stamp 1 1) b)
theorem dput_len (d : St) (i : Nat) (x : T) : (Dsk.put d i x).secs.length = d.secs.length := by
  show (List.modify _ _ _).length = _
  rw [List.length_modify]
theorem pa_len (a : T) : (pa a).secs.length = 4 := by unfold pa; rw [dput_len]; exact List.length_replicate
theorem pa_eq {a : T} (h : a.length ≤ 47) : Grd.put 1 0 (Dsk.fresh 4) 0 a = ((Grd.stamp 1 0 : Int), 0, 1, pa a) := by
  unfold Grd.put
  rw [if_neg (by omega), if_neg (by decide)]
  have hw : Dsk.write (Dsk.fresh 4) (0 : Int) (Grd.grd (Grd.stamp 1 0) a) = (0, pa a) := write_in (i := 0) rfl rfl (by decide) (Grd.grd_len h)
  rw [hw]
  rfl
theorem pb_eq {a b : T} (h : b.length ≤ 47) : Grd.put 1 1 (pa a) 1 b = ((Grd.stamp 1 1 : Int), 0, 2, pb a b) := by
  unfold Grd.put
  rw [if_neg (by omega), if_neg (by decide)]
  have hw : Dsk.write (pa a) (1 : Int) (Grd.grd (Grd.stamp 1 1) b) = (0, pb a b) := write_in (i := 1) rfl rfl (by rw [pa_len]; decide) (Grd.grd_len h)
  rw [hw]
  rfl
theorem lookB_put {i s : Nat} {t : T} (hs : Grd.Stm s) (h : t.length ≤ 47) : lookB i (Grd.grd s t) = find i t := by
  unfold lookB
  rw [Grd.rd_grd h hs]
  rfl
theorem pb_load {a b : T} (ha : a.length ≤ 47) (hb : b.length ≤ 47) : load (pb a b) = match pick (find 0 a) (find 1 b) with | none => (zero, 7) | some s => (s, 0) := by
  have h0 : (pb a b).secs[0]? = some ⟨Grd.noughts, 0, some (Grd.grd (Grd.stamp 1 0) a, 1)⟩ := rfl
  have h1 : (pb a b).secs[1]? = some ⟨Grd.noughts, 0, some (Grd.grd (Grd.stamp 1 1) b, 2)⟩ := rfl
  have hl := load_two (d := pb a b) rfl h0 h1
  rw [hl]
  show (match pick (lookB 0 (Grd.grd (Grd.stamp 1 0) a)) (lookB 1 (Grd.grd (Grd.stamp 1 1) b)) with | none => (zero, (7 : Int)) | some s => (s, 0)) = _
  rw [lookB_put ⟨by decide, by decide⟩ ha, lookB_put ⟨by decide, by decide⟩ hb]
/-- Nothing greater lies in the other sector. -/
def NoMore (s : Sup) (o : T) : Prop := ∀ g : Int, s.gen < g → (g - s.gen) % 2 = 1 → isS o g = false
theorem noMore {s : Sup} {o : T} {i : Nat} (hi : s.gen % 2 ≠ (i : Int)) (h2 : i < 2) (h : ∀ t, find i o = some t → t.gen ≤ s.gen) : NoMore s o := fun g hg hm => by
  cases hf : isS o g with
  | false => rfl
  | true =>
    exfalso
    obtain ⟨t, ht, hgt, he, _⟩ := isS_some hf
    have := h t (find_iff.2 ⟨ht, by omega, he⟩)
    omega
/-- What is loaded of two sectors that were put. -/
theorem loads_fin {a b : T} (ha : a.length ≤ 47) (hb : b.length ≤ 47) : load (pb a b) = (zero, 7) ∨ ∃ s, right s = true ∧ load (pb a b) = (s, 0) ∧ ((s.gen % 2 = 0 ∧ enc s = a ∧ NoMore s b) ∨ (s.gen % 2 = 1 ∧ enc s = b ∧ NoMore s a)) := by
  rw [pb_load ha hb]
  cases h0 : find 0 a with
  | none =>
    cases h1 : find 1 b with
    | none => exact Or.inl rfl
    | some t =>
      obtain ⟨r1, r2, r3⟩ := find_iff.1 h1
      exact Or.inr ⟨t, r1, rfl, Or.inr ⟨r2, r3, noMore (i := 0) (by omega) (by decide) (fun x hx => by rw [h0] at hx; cases hx)⟩⟩
  | some s =>
    obtain ⟨q1, q2, q3⟩ := find_iff.1 h0
    cases h1 : find 1 b with
    | none => exact Or.inr ⟨s, q1, rfl, Or.inl ⟨q2, q3, noMore (i := 1) (by omega) (by decide) (fun x hx => by rw [h1] at hx; cases hx)⟩⟩
    | some t =>
      obtain ⟨r1, r2, r3⟩ := find_iff.1 h1
      by_cases hlt : s.gen < t.gen
      · refine Or.inr ⟨t, r1, ?_, Or.inr ⟨r2, r3, noMore (i := 0) (by omega) (by decide) (fun x hx => by rw [h0] at hx; injection hx with hx; subst hx; omega)⟩⟩
        show (match (if s.gen < t.gen then some t else some s) with | none => (zero, (7 : Int)) | some s => (s, 0)) = _
        rw [if_pos hlt]
      · refine Or.inr ⟨s, q1, ?_, Or.inl ⟨q2, q3, noMore (i := 1) (by omega) (by decide) (fun x hx => by rw [h1] at hx; injection hx with hx; subst hx; omega)⟩⟩
        show (match (if s.gen < t.gen then some t else some s) with | none => (zero, (7 : Int)) | some s => (s, 0)) = _
        rw [if_neg hlt]
theorem num_le (m : Int) (hm : 0 ≤ m) (st : R.St) : 0 ≤ (R.num m st).1 ∧ (R.num m st).1 ≤ m := by
  show 0 ≤ (if (if m < ((R.fold _ : Nat) : Int) then R.fail 3 _ else _ : R.St).2 = 0 then ((R.fold _ : Nat) : Int) else 0) ∧ (if (if m < ((R.fold _ : Nat) : Int) then R.fail 3 _ else _ : R.St).2 = 0 then ((R.fold _ : Nat) : Int) else 0) ≤ m
  generalize R.fold _ = n
  generalize R.lead _ _ = st3
  by_cases h : m < (n : Int)
  · rw [if_pos h]
    have hne : ¬ (R.fail 3 st3).2 = 0 := by
      show ¬ (if st3.2 = 0 then (3 : Int) else st3.2) = 0
      split <;> omega
    rw [if_neg hne]
    omega
  · rw [if_neg h]
    split <;> omega
theorem num_bounds (b : T) : 0 ≤ (l2 b).1 ∧ (l2 b).1 ≤ 2147483647 := num_le 2147483647 (by decide) _
end Sup
end Go.Proofs.YtdgfohffmbnjiaaGreatDoor
