/-
  A disk, purely: sectors, what waits, what lasts when the power goes. No program stands here.
-/
import Derived.Test.YthadcmbbdggneaaGreatDoorMem
namespace Go.Proofs.YthadcmbbdggneaaGreatDoor
set_option linter.unusedVariables false

namespace Dsk
abbrev T := List UInt8
/-- How the power goes. -/
structure Fall where
  keep : Nat
  tear : Int
/-- A sector: what lasts, by which act, and what was written since, by which act. -/
structure Sec where
  sure : T
  at_ : Nat
  pend : Option (T × Nat)
/-- What was written last. -/
def Sec.now (s : Sec) : T := match s.pend with | some p => p.1 | none => s.sure
structure St where
  secs : List Sec
  up : Bool
  arm : Option (Nat × Fall)
  acts : Nat
  falls : Nat
def bit (f : Fall) (k : Nat) : Bool := f.keep / 2 ^ (k % 64) % 2 == 1
def tears (f : Fall) (k : Nat) : Bool := decide (0 ≤ f.tear) && decide (f.tear / 64 = (k : Int))
def cut (f : Fall) : Nat := (f.tear % 64).toNat
/-- What becomes of the sector number k of those that wait. -/
def fallOne (f : Fall) (k : Nat) (s : Sec) (p : T × Nat) : Sec :=
  if tears f k then ⟨p.1.take (cut f) ++ (if bit f k then p.1 else s.sure).drop (cut f), p.2, none⟩
  else if bit f k then ⟨p.1, p.2, none⟩ else ⟨s.sure, s.at_, none⟩
def fallGo (f : Fall) : Nat → List Sec → List Sec
  | _, [] => []
  | k, s :: r => match s.pend with
    | none => s :: fallGo f k r
    | some p => fallOne f k s p :: fallGo f (k + 1) r
def fall (f : Fall) (d : St) : St := { secs := fallGo f 0 d.secs, up := false, arm := none, acts := d.acts, falls := d.falls + 1 }
def flushed (s : Sec) : Sec := match s.pend with | some p => ⟨p.1, p.2, none⟩ | none => s
def act (d : St) : Bool × St := match d.arm with
  | some (0, f) => (false, fall f d)
  | some (n + 1, f) => (true, { d with arm := some (n, f), acts := d.acts + 1 })
  | none => (true, { d with acts := d.acts + 1 })
def put (d : St) (i : Nat) (s : T) : St := { d with secs := d.secs.modify i fun x => ⟨x.sure, x.at_, some (s, d.acts)⟩ }
def write (d : St) (i : Int) (s : T) : Int × St :=
  if d.up = false then (8, d) else if ¬ (0 ≤ i ∧ i < (d.secs.length : Int)) then (5, d) else if s.length ≠ 64 then (1, d)
  else if (act d).1 = false then (8, (act d).2) else (0, put (act d).2 i.toNat s)
def flush (d : St) : Int × St :=
  if d.up = false then (8, d) else if (act d).1 = false then (8, (act d).2) else (0, { (act d).2 with secs := (act d).2.secs.map flushed })
def crash (d : St) (f : Fall) : Int × St := if d.up = false then (8, d) else (0, fall f d)
def armed (d : St) (n : Int) (f : Fall) : Int × St := if d.up = false then (8, d) else if n < 0 then (1, d) else (0, { d with arm := some (n.toNat, f) })
def calm (d : St) : St := { d with arm := none }
def start (d : St) : Int × St := if d.up = true then (25, d) else (0, { d with up := true })
def read (d : St) (i : Int) : T × Int :=
  if d.up = false then ([], 8) else if ¬ (0 ≤ i ∧ i < (d.secs.length : Int)) then ([], 5) else (((d.secs[i.toNat]?).map Sec.now).getD [], 0)
def fresh (n : Nat) : St := { secs := List.replicate n ⟨List.replicate 64 0, 0, none⟩, up := true, arm := none, acts := 0, falls := 0 }
def Full (s : Sec) : Prop := s.sure.length = 64 ∧ ∀ p, s.pend = some p → p.1.length = 64
/-- All sectors have 64 bytes. -/
def Good (d : St) : Prop := ∀ s ∈ d.secs, Full s

theorem fallOne_pend (f : Fall) (k : Nat) (s : Sec) (p : T × Nat) : (fallOne f k s p).pend = none := by
  unfold fallOne
  split
  · rfl
  · split <;> rfl
theorem fallGo_len (f : Fall) : ∀ (k : Nat) (L : List Sec), (fallGo f k L).length = L.length := by
  intro k L
  induction L generalizing k with
  | nil => rfl
  | cons s r ih =>
    unfold fallGo
    split
    · rw [List.length_cons, List.length_cons, ih]
    · rw [List.length_cons, List.length_cons, ih]
theorem fallGo_none {f : Fall} {k : Nat} {L : List Sec} : ∀ s ∈ fallGo f k L, s.pend = none := by
  induction L generalizing k with
  | nil => intro s hs; cases hs
  | cons x r ih =>
    intro s hs
    unfold fallGo at hs
    split at hs
    · rename_i hx
      rcases List.mem_cons.1 hs with rfl | hs
      · exact hx
      · exact ih s hs
    · rcases List.mem_cons.1 hs with rfl | hs
      · exact fallOne_pend ..
      · exact ih s hs
theorem cut_lt (f : Fall) : cut f < 64 := by
  unfold cut
  have := Int.emod_lt_of_pos f.tear (show (0 : Int) < 64 by decide)
  have := Int.emod_nonneg f.tear (show (64 : Int) ≠ 0 by decide)
  omega
theorem fallOne_full (f : Fall) (k : Nat) (s : Sec) (p : T × Nat) (hs : s.sure.length = 64) (hp : p.1.length = 64) : Full (fallOne f k s p) := by
  have hc := cut_lt f
  refine ⟨?_, fun q hq => by rw [fallOne_pend] at hq; cases hq⟩
  unfold fallOne
  split
  · show (p.1.take (cut f) ++ (if bit f k = true then p.1 else s.sure).drop (cut f)).length = 64
    rw [List.length_append, List.length_take, List.length_drop]
    split <;> omega
  · split
    · exact hp
    · exact hs
theorem fallGo_full (f : Fall) {k : Nat} {L : List Sec} (h : ∀ s ∈ L, Full s) : ∀ s ∈ fallGo f k L, Full s := by
  induction L generalizing k with
  | nil => intro s hs; cases hs
  | cons x r ih =>
    intro s hs
    have hx := h x (by simp)
    have hr : ∀ s ∈ r, Full s := fun s hs => h s (by simp [hs])
    unfold fallGo at hs
    split at hs
    · rcases List.mem_cons.1 hs with rfl | hs
      · exact hx
      · exact ih hr s hs
    · rename_i p hp
      rcases List.mem_cons.1 hs with rfl | hs
      · exact fallOne_full f _ _ _ hx.1 (hx.2 p hp)
      · exact ih hr s hs
theorem fall_good {d : St} (f : Fall) (h : Good d) : Good (fall f d) := fallGo_full f h
theorem flushed_full {s : Sec} (h : Full s) : Full (flushed s) := by
  unfold flushed
  split
  · rename_i p hp
    exact ⟨h.2 p hp, fun q hq => by cases hq⟩
  · exact h
theorem act_good {d : St} (h : Good d) : Good (act d).2 := by
  unfold act
  split
  · exact fall_good _ h
  · exact h
  · exact h
theorem act_secs {d : St} : (act d).2.secs.length = d.secs.length := by
  unfold act
  split
  · exact fallGo_len ..
  · rfl
  · rfl
theorem fresh_good (n : Nat) : Good (fresh n) := fun s hs => by
  rw [(List.mem_replicate.1 hs).2]
  exact ⟨List.length_replicate, fun p hp => by cases hp⟩

/-- Is what lasts of a sector neither what lasted nor what was written? -/
def torn (s s' : Sec) : Bool := decide (s'.sure ≠ s.sure) && decide (s'.sure ≠ s.now)
def tornN (L L' : List Sec) : Nat := ((L.zip L').filter fun p => torn p.1 p.2).length
theorem fallOne_torn (f : Fall) (k : Nat) (s : Sec) (p : T × Nat) (hp : s.pend = some p) (h : torn s (fallOne f k s p) = true) : tears f k = true := by
  by_cases ht : tears f k = true
  · exact ht
  · unfold torn fallOne at h
    rw [if_neg ht] at h
    have hn : s.now = p.1 := by unfold Sec.now; rw [hp]
    split at h
    · simp [hn] at h
    · simp at h
theorem tornN_le (f : Fall) : ∀ (L : List Sec) (k : Nat), tornN L (fallGo f k L) ≤ (if 0 ≤ f.tear ∧ (k : Int) ≤ f.tear / 64 then 1 else 0) := by
  intro L
  induction L with
  | nil => intro k; exact Nat.zero_le _
  | cons s r ih =>
    intro k
    unfold fallGo
    cases hp : s.pend with
    | none =>
      show tornN (s :: r) (s :: fallGo f k r) ≤ _
      have hn : torn s s = false := by unfold torn; simp
      have he : tornN (s :: r) (s :: fallGo f k r) = tornN r (fallGo f k r) := by
        unfold tornN
        rw [List.zip_cons_cons, List.filter_cons, if_neg (by rw [hn]; decide)]
      rw [he]
      exact ih k
    | some p =>
      show tornN (s :: r) (fallOne f k s p :: fallGo f (k + 1) r) ≤ _
      have ih' := ih (k + 1)
      have he : tornN (s :: r) (fallOne f k s p :: fallGo f (k + 1) r) = (if torn s (fallOne f k s p) = true then 1 else 0) + tornN r (fallGo f (k + 1) r) := by
        unfold tornN
        rw [List.zip_cons_cons, List.filter_cons]
        split
        · rw [List.length_cons]; omega
        · omega
      rw [he]
      by_cases ht : torn s (fallOne f k s p) = true
      · have htk := fallOne_torn f k s p hp ht
        unfold tears at htk
        rw [Bool.and_eq_true, decide_eq_true_eq, decide_eq_true_eq] at htk
        rw [if_pos ht]
        rw [if_neg (by omega)] at ih'
        rw [if_pos (by omega)]
        omega
      · rw [if_neg ht]
        split at ih'
        · rename_i hc
          rw [if_pos (by omega)]
          omega
        · omega
end Dsk
end Go.Proofs.YthadcmbbdggneaaGreatDoor
