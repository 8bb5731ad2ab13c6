/-
  GrdPures: the texts DskSpec, GrdSpec, GrdWhole, GrdRun, SupDisk, SupEither in one.
-/
import Derived.Test.YtdgfohffmbnjiaaGreatDoorMemOne
import Derived.Test.YtdgfohffmbnjiaaGreatDoorRdPures
namespace Go.Proofs.YtdgfohffmbnjiaaGreatDoor
set_option linter.unusedVariables false

namespace Dsk
abbrev T := List UInt8
/-- How the power goes. -/
structure Fall where
  keep : Nat
  tear : Int
/-- A sector: what lasts, by which act, and what was written since, by which act. -/
structure Sec where
  sure : T
  at_ : Nat
  pend : Option (T × Nat)
/-- What was written last. -/
def Sec.now (s : Sec) : T := match s.pend with | some p => p.1 | none => s.sure
structure St where
  secs : List Sec
  up : Bool
  arm : Option (Nat × Fall)
  acts : Nat
  falls : Nat
def bit (f : Fall) (k : Nat) : Bool := f.keep / 2 ^ (k % 64) % 2 == 1
def tears (f : Fall) (k : Nat) : Bool := decide (0 ≤ f.tear) && decide (f.tear / 64 = (k : Int))
def cut (f : Fall) : Nat := (f.tear % 64).toNat
/-- What becomes of the sector number k of those that wait. -/
def fallOne (f : Fall) (k : Nat) (s : Sec) (p : T × Nat) : Sec :=
  if tears f k then ⟨p.1.take (cut f) ++ (if bit f k then p.1 else s.sure).drop (cut f), p.2, none⟩
  else if bit f k then ⟨p.1, p.2, none⟩ else ⟨s.sure, s.at_, none⟩
def fallGo (f : Fall) : Nat → List Sec → List Sec
  | _, [] => []
  | k, s :: r => match s.pend with
    | none => s :: fallGo f k r
    | some p => fallOne f k s p :: fallGo f (k + 1) r
def fall (f : Fall) (d : St) : St := { secs := fallGo f 0 d.secs, up := false, arm := none, acts := d.acts, falls := d.falls + 1 }
def flushed (s : Sec) : Sec := match s.pend with | some p => ⟨p.1, p.2, none⟩ | none => s
def act (d : St) : Bool × St := match d.arm with
  | some (0, f) => (false, fall f d)
  | some (n + 1, f) => (true, { d with arm := some (n, f), acts := d.acts + 1 })
  | none => (true, { d with acts := d.acts + 1 })
def put (d : St) (i : Nat) (s : T) : St := { d with secs := d.secs.modify i fun x => ⟨x.sure, x.at_, some (s, d.acts)⟩ }
def write (d : St) (i : Int) (s : T) : Int × St :=
  if d.up = false then (8, d) else if ¬ (0 ≤ i ∧ i < (d.secs.length : Int)) then (5, d) else if s.length ≠ 64 then (1, d)
  else if (act d).1 = false then (8, (act d).2) else (0, put (act d).2 i.toNat s)
def flush (d : St) : Int × St :=
  if d.up = false then (8, d) else if (act d).1 = false then (8, (act d).2) else (0, { (act d).2 with secs := (act d).2.secs.map flushed })
def crash (d : St) (f : Fall) : Int × St := if d.up = false then (8, d) else (0, fall f d)
def armed (d : St) (n : Int) (f : Fall) : Int × St := if d.up = false then (8, d) else if n < 0 then (1, d) else (0, { d with arm := some (n.toNat, f) })
def calm (d : St) : St := { d with arm := none }
def start (d : St) : Int × St := if d.up = true then (25, d) else (0, { d with up := true })
def read (d : St) (i : Int) : T × Int :=
  if d.up = false then ([], 8) else if ¬ (0 ≤ i ∧ i < (d.secs.length : Int)) then ([], 5) else (((d.secs[i.toNat]?).map Sec.now).getD [], 0)
def fresh (n : Nat) : St := { secs := List.replicate n ⟨List.replicate 64 0, 0, none⟩, up := true, arm := none, acts := 0, falls := 0 }
def Full (s : Sec) : Prop := s.sure.length = 64 ∧ ∀ p, s.pend = some p → p.1.length = 64
/-- All sectors have 64 bytes. -/
def Good (d : St) : Prop := ∀ s ∈ d.secs, Full s

theorem fallOne_pend (f : Fall) (k : Nat) (s : Sec) (p : T × Nat) : (fallOne f k s p).pend = none := by
  unfold fallOne
  split
  · rfl
  · split <;> rfl
theorem fallGo_len (f : Fall) : ∀ (k : Nat) (L : List Sec), (fallGo f k L).length = L.length := by
  intro k L
  induction L generalizing k with
  | nil => rfl
  | cons s r ih =>
    unfold fallGo
    split
    · rw [List.length_cons, List.length_cons, ih]
    · rw [List.length_cons, List.length_cons, ih]
theorem fallGo_none {f : Fall} {k : Nat} {L : List Sec} : ∀ s ∈ fallGo f k L, s.pend = none := by
  induction L generalizing k with
  | nil => intro s hs; cases hs
  | cons x r ih =>
    intro s hs
    unfold fallGo at hs
    split at hs
    · rename_i hx
      rcases List.mem_cons.1 hs with rfl | hs
      · exact hx
      · exact ih s hs
    · rcases List.mem_cons.1 hs with rfl | hs
      · exact fallOne_pend ..
      · exact ih s hs
theorem cut_lt (f : Fall) : cut f < 64 := by
  unfold cut
  have := Int.emod_lt_of_pos f.tear (show (0 : Int) < 64 by decide)
  have := Int.emod_nonneg f.tear (show (64 : Int) ≠ 0 by decide)
  omega
theorem fallOne_full (f : Fall) (k : Nat) (s : Sec) (p : T × Nat) (hs : s.sure.length = 64) (hp : p.1.length = 64) : Full (fallOne f k s p) := by
  have hc := cut_lt f
  refine ⟨?_, fun q hq => by rw [fallOne_pend] at hq; cases hq⟩
  unfold fallOne
  split
  · show (p.1.take (cut f) ++ (if bit f k = true then p.1 else s.sure).drop (cut f)).length = 64
    rw [List.length_append, List.length_take, List.length_drop]
    split <;> omega
  · split
    · exact hp
    · exact hs
theorem fallGo_full (f : Fall) {k : Nat} {L : List Sec} (h : ∀ s ∈ L, Full s) : ∀ s ∈ fallGo f k L, Full s := by
  induction L generalizing k with
  | nil => intro s hs; cases hs
  | cons x r ih =>
    intro s hs
    have hx := h x (by simp)
    have hr : ∀ s ∈ r, Full s := fun s hs => h s (by simp [hs])
    unfold fallGo at hs
    split at hs
    · rcases List.mem_cons.1 hs with rfl | hs
      · exact hx
      · exact ih hr s hs
    · rename_i p hp
      rcases List.mem_cons.1 hs with rfl | hs
      · exact fallOne_full f _ _ _ hx.1 (hx.2 p hp)
      · exact ih hr s hs
theorem fall_good {d : St} (f : Fall) (h : Good d) : Good (fall f d) := fallGo_full f h
theorem flushed_full {s : Sec} (h : Full s) : Full (flushed s) := by
  unfold flushed
  split
  · rename_i p hp
    exact ⟨h.2 p hp, fun q hq => by cases hq⟩
  · exact h
theorem act_good {d : St} (h : Good d) : Good (act d).2 := by
  unfold act
  split
  · exact fall_good _ h
  · exact h
  · exact h
theorem act_secs {d : St} : (act d).2.secs.length = d.secs.length := by
  unfold act
  split
  · exact fallGo_len ..
  · rfl
  · rfl
theorem fresh_good (n : Nat) : Good (fresh n) := fun s hs => by
  rw [(List.mem_replicate.1 hs).2]
  exact ⟨List.length_replicate, fun p hp => by cases hp⟩

/-- Is what lasts of a sector neither what lasted nor what was written? -/
def torn (s s' : Sec) : Bool := decide (s'.sure ≠ s.sure) && decide (s'.sure ≠ s.now)
def tornN (L L' : List Sec) : Nat := ((L.zip L').filter fun p => torn p.1 p.2).length
theorem fallOne_torn (f : Fall) (k : Nat) (s : Sec) (p : T × Nat) (hp : s.pend = some p) (h : torn s (fallOne f k s p) = true) : tears f k = true := by
  by_cases ht : tears f k = true
  · exact ht
  · unfold torn fallOne at h
    rw [if_neg ht] at h
    have hn : s.now = p.1 := by unfold Sec.now; rw [hp]
    split at h
    · simp [hn] at h
    · simp at h
theorem tornN_le (f : Fall) : ∀ (L : List Sec) (k : Nat), tornN L (fallGo f k L) ≤ (if 0 ≤ f.tear ∧ (k : Int) ≤ f.tear / 64 then 1 else 0) := by
  intro L
  induction L with
  | nil => intro k; exact Nat.zero_le _
  | cons s r ih =>
    intro k
    unfold fallGo
    cases hp : s.pend with
    | none =>
      show tornN (s :: r) (s :: fallGo f k r) ≤ _
      have hn : torn s s = false := by unfold torn; simp
      have he : tornN (s :: r) (s :: fallGo f k r) = tornN r (fallGo f k r) := by
        unfold tornN
        rw [List.zip_cons_cons, List.filter_cons, if_neg (by rw [hn]; decide)]
      rw [he]
      exact ih k
    | some p =>
      show tornN (s :: r) (fallOne f k s p :: fallGo f (k + 1) r) ≤ _
      have ih' := ih (k + 1)
      have he : tornN (s :: r) (fallOne f k s p :: fallGo f (k + 1) r) = (if torn s (fallOne f k s p) = true then 1 else 0) + tornN r (fallGo f (k + 1) r) := by
        unfold tornN
        rw [List.zip_cons_cons, List.filter_cons]
        split
        · rw [List.length_cons]; omega
        · omega
      rw [he]
      by_cases ht : torn s (fallOne f k s p) = true
      · have htk := fallOne_torn f k s p hp ht
        unfold tears at htk
        rw [Bool.and_eq_true, decide_eq_true_eq, decide_eq_true_eq] at htk
        rw [if_pos ht]
        rw [if_neg (by omega)] at ih'
        rw [if_pos (by omega)]
        omega
      · rw [if_neg ht]
        split at ih'
        · rename_i hc
          rw [if_pos (by omega)]
          omega
        · omega
end Dsk
end Go.Proofs.YtdgfohffmbnjiaaGreatDoor

namespace Go.Proofs.YtdgfohffmbnjiaaGreatDoor
set_option linter.unusedVariables false

namespace Grd
abbrev T := List UInt8
/-- A number's last eight bytes, most significant first. -/
def eight (n : Nat) : T := [UInt8.ofNat (n / 72057594037927936), UInt8.ofNat (n / 281474976710656), UInt8.ofNat (n / 1099511627776), UInt8.ofNat (n / 4294967296), UInt8.ofNat (n / 16777216), UInt8.ofNat (n / 65536), UInt8.ofNat (n / 256), UInt8.ofNat n]
def num8 (l : T) : Nat := l.foldl (fun a c => a * 256 + c.toNat) 0
def zeros (n : Nat) : T := List.replicate n 0
def noughts : T := zeros 64
/-- The bytes of a sector into which s is put with the stamp a. -/
def grd (a : Nat) (s : T) : T := eight a ++ (UInt8.ofNat s.length :: (s ++ zeros (47 - s.length))) ++ eight a
/-- Is it a guarded sector? -/
def isG (b : T) : Bool := decide (b.length = 64) && decide (b.take 8 = b.drop 56) && decide ((b.getD 8 0).toNat ≤ 47) && decide ((b.drop (9 + (b.getD 8 0).toNat)).take (47 - (b.getD 8 0).toNat) = zeros (47 - (b.getD 8 0).toNat)) && decide (4294967296 ≤ num8 (b.take 8)) && decide (num8 (b.take 8) < 9223372036854775808)
/-- What is read of a sector's bytes: data, stamp, code. -/
def rd (b : T) : T × Nat × Int := if b = noughts then ([], 0, 7) else if isG b = true then ((b.drop 9).take (b.getD 8 0).toNat, num8 (b.take 8), 0) else ([], 0, 17)
/-- A stamp that may be. -/
def Stm (a : Nat) : Prop := 4294967296 ≤ a ∧ a < 9223372036854775808

theorem eight_len (n : Nat) : (eight n).length = 8 := rfl
theorem zeros_len (n : Nat) : (zeros n).length = n := List.length_replicate
theorem grd_len {a : Nat} {s : T} (h : s.length ≤ 47) : (grd a s).length = 64 := by
  unfold grd
  simp [eight_len, zeros_len]
  omega
theorem u8_toNat (n : Nat) : (UInt8.ofNat n).toNat = n % 256 := by rw [UInt8.toNat_ofNat']
theorem num8_eight (n : Nat) (h : n < 18446744073709551616) : num8 (eight n) = n := by
  unfold num8 eight
  simp only [List.foldl_cons, List.foldl_nil, u8_toNat]
  omega
theorem eight_inj {a b : Nat} (ha : a < 18446744073709551616) (hb : b < 18446744073709551616) (h : eight a = eight b) : a = b := by
  rw [← num8_eight a ha, ← num8_eight b hb, h]
theorem num8_zeros : num8 (zeros 8) = 0 := by decide
theorem grd_take8 (a : Nat) (s : T) : (grd a s).take 8 = eight a := by
  unfold grd
  rw [List.append_assoc, List.take_append_of_le_length (by rw [eight_len]; decide), List.take_of_length_le (by rw [eight_len]; decide)]
theorem grd_drop56 {a : Nat} {s : T} (h : s.length ≤ 47) : (grd a s).drop 56 = eight a := by
  unfold grd
  rw [List.drop_append_of_le_length (by simp [eight_len, zeros_len]; omega)]
  rw [List.drop_eq_nil_of_le (by simp [eight_len, zeros_len]; omega), List.nil_append]
theorem noughts_take8 : noughts.take 8 = zeros 8 := by decide
theorem noughts_drop56 : noughts.drop 56 = zeros 8 := by decide
theorem noughts_len : noughts.length = 64 := zeros_len 64
theorem eight_ne {a : Nat} (h : Stm a) : eight a ≠ zeros 8 := fun e => by
  have h1 := num8_eight a (by have := h.2; omega)
  rw [e, num8_zeros] at h1
  have := h.1
  omega
/-- What a sector may hold: noughts, or something that was put there. -/
def Cont (P : T) : Prop := P = noughts ∨ ∃ a s, P = grd a s ∧ s.length ≤ 47 ∧ Stm a
theorem Cont.len {P : T} (h : Cont P) : P.length = 64 := by
  rcases h with rfl | ⟨a, s, rfl, hs, _⟩
  · exact noughts_len
  · exact grd_len hs
/-- Two contents have unlike stamps. -/
def Apart (P Q : T) : Prop := ∀ a s b t, P = grd a s → Q = grd b t → Stm a → Stm b → a ≠ b
theorem isG_ends {b : T} (h : isG b = true) : b.length = 64 ∧ b.take 8 = b.drop 56 ∧ Stm (num8 (b.take 8)) := by
  unfold isG at h
  simp only [Bool.and_eq_true, decide_eq_true_eq] at h
  exact ⟨h.1.1.1.1.1, h.1.1.1.1.2, h.1.2, h.2⟩
theorem split8 {b c : T} (h1 : b.take 8 = c.take 8) (h2 : b.drop 8 = c.drop 8) : b = c := by
  rw [← List.take_append_drop 8 b, ← List.take_append_drop 8 c, h1, h2]
theorem split56 {b c : T} (h1 : b.take 56 = c.take 56) (h2 : b.drop 56 = c.drop 56) : b = c := by
  rw [← List.take_append_drop 56 b, ← List.take_append_drop 56 c, h1, h2]
theorem mix_drop {P Q : T} {c m : Nat} (hP : P.length = 64) (hc : c ≤ m) (hm : m ≤ 64) : (P.take c ++ Q.drop c).drop m = Q.drop m := by
  rw [List.drop_append, List.length_take]
  rw [List.drop_eq_nil_of_le (by rw [List.length_take]; omega), List.nil_append, List.drop_drop]
  congr 1
  omega
theorem mix_take {P Q : T} {c m : Nat} (hP : P.length = 64) (hc : m ≤ c) (h64 : c ≤ 64) : (P.take c ++ Q.drop c).take m = P.take m := by
  rw [List.take_append_of_le_length (by rw [List.length_take]; omega), List.take_take, Nat.min_eq_left hc]
/-- The stamps at both ends of a content. -/
theorem Cont.ends {P : T} (h : Cont P) : (P = noughts ∧ P.take 8 = zeros 8 ∧ P.drop 56 = zeros 8) ∨ (∃ a s, P = grd a s ∧ Stm a ∧ P.take 8 = eight a ∧ P.drop 56 = eight a) := by
  rcases h with rfl | ⟨a, s, rfl, hs, ha⟩
  · exact Or.inl ⟨rfl, noughts_take8, noughts_drop56⟩
  · exact Or.inr ⟨a, s, rfl, ha, grd_take8 a s, grd_drop56 hs⟩
theorem rd_torn {b : T} (h1 : b ≠ noughts) (h2 : isG b = false) : (rd b).2.2 = 17 := by
  unfold rd
  rw [if_neg h1, if_neg (by rw [h2]; decide)]
/-- **A TORN SECTOR IS ONE OF BOTH, WHOLE, OR IT IS TOLD.** -/
theorem mix {P Q : T} (hP : Cont P) (hQ : Cont Q) (hA : Apart P Q) (c : Nat) (hc : c < 64) : P.take c ++ Q.drop c = P ∨ P.take c ++ Q.drop c = Q ∨ (rd (P.take c ++ Q.drop c)).2.2 = 17 := by
  have lP := hP.len
  have lQ := hQ.len
  by_cases h8 : c ≤ 8
  · -- the end is Q's
    have e1 : (P.take c ++ Q.drop c).drop 56 = Q.drop 56 := mix_drop lP (by omega) (by decide)
    have e2 : (P.take c ++ Q.drop c).drop 8 = Q.drop 8 := mix_drop lP h8 (by decide)
    generalize hM : P.take c ++ Q.drop c = M at e1 e2
    by_cases hg : isG M = true
    · obtain ⟨_, g1, g2⟩ := isG_ends hg
      refine Or.inr (Or.inl (split8 ?_ e2))
      rw [g1, e1]
      rcases hQ.ends with ⟨_, q1, q2⟩ | ⟨b, t, _, _, q1, q2⟩
      · exfalso
        rw [g1, e1, q2, num8_zeros] at g2
        have := g2.1
        omega
      · rw [q1, q2]
    · by_cases hn : M = noughts
      · rcases hQ.ends with ⟨q0, _, _⟩ | ⟨b, t, _, hb, q1, q2⟩
        · exact Or.inr (Or.inl (hn.trans q0.symm))
        · exfalso
          rw [q2, hn, noughts_drop56] at e1
          exact eight_ne hb e1.symm
      · exact Or.inr (Or.inr (rd_torn hn (by simpa using hg)))
  · by_cases h56 : c ≤ 56
    · have e1 : (P.take c ++ Q.drop c).drop 56 = Q.drop 56 := mix_drop lP h56 (by decide)
      have e2 : (P.take c ++ Q.drop c).take 8 = P.take 8 := mix_take lP (by omega) (by omega)
      generalize hM : P.take c ++ Q.drop c = M at e1 e2
      by_cases hg : isG M = true
      · exfalso
        obtain ⟨_, g1, g2⟩ := isG_ends hg
        rw [e2, e1] at g1
        rw [e2] at g2
        rcases hP.ends with ⟨_, p1, p2⟩ | ⟨a, s, pe, ha, p1, p2⟩
        · rw [p1, num8_zeros] at g2
          have := g2.1
          omega
        · rcases hQ.ends with ⟨_, q1, q2⟩ | ⟨b, t, qe, hb, q1, q2⟩
          · rw [p1, q2] at g1
            exact eight_ne ha g1
          · rw [p1, q2] at g1
            exact hA a s b t pe qe ha hb (eight_inj (by have := ha.2; omega) (by have := hb.2; omega) g1)
      · by_cases hn : M = noughts
        · rcases hP.ends with ⟨p0, _, _⟩ | ⟨a, s, _, ha, p1, p2⟩
          · exact Or.inl (hn.trans p0.symm)
          · exfalso
            rw [p1, hn, noughts_take8] at e2
            exact eight_ne ha e2.symm
        · exact Or.inr (Or.inr (rd_torn hn (by simpa using hg)))
    · -- the beginning is P's
      have e1 : (P.take c ++ Q.drop c).take 56 = P.take 56 := mix_take lP (by omega) (by omega)
      have e2 : (P.take c ++ Q.drop c).take 8 = P.take 8 := mix_take lP (by omega) (by omega)
      generalize hM : P.take c ++ Q.drop c = M at e1 e2
      by_cases hg : isG M = true
      · obtain ⟨_, g1, g2⟩ := isG_ends hg
        refine Or.inl (split56 e1 ?_)
        rw [← g1, e2]
        rcases hP.ends with ⟨_, p1, p2⟩ | ⟨a, s, _, ha, p1, p2⟩
        · rw [p1, p2]
        · rw [p1, p2]
      · by_cases hn : M = noughts
        · rcases hP.ends with ⟨p0, _, _⟩ | ⟨a, s, _, ha, p1, p2⟩
          · exact Or.inl (hn.trans p0.symm)
          · exfalso
            rw [p1, hn, noughts_take8] at e2
            exact eight_ne ha e2.symm
        · exact Or.inr (Or.inr (rd_torn hn (by simpa using hg)))
theorem rd_noughts : rd noughts = ([], 0, 7) := by unfold rd; rw [if_pos rfl]
theorem grd_at8 (a : Nat) (s : T) (h : s.length ≤ 47) : ((grd a s).getD 8 0).toNat = s.length := by
  have e : (grd a s)[8]? = some (UInt8.ofNat s.length) := by
    unfold grd
    rw [List.append_assoc, List.getElem?_append_right (by rw [eight_len]; decide), eight_len]
    rfl
  rw [List.getD_eq_getElem?_getD, e, Option.getD_some, u8_toNat]
  omega
theorem grd_drop9 (a : Nat) (s : T) : (grd a s).drop 9 = s ++ zeros (47 - s.length) ++ eight a := by
  unfold grd
  rw [List.append_assoc, List.drop_append, List.drop_eq_nil_of_le (by rw [eight_len]; decide), List.nil_append, eight_len]
  rfl
theorem grd_isG {a : Nat} {s : T} (hs : s.length ≤ 47) (ha : Stm a) : isG (grd a s) = true := by
  unfold isG
  have h9 : ((grd a s).drop (9 + s.length)).take (47 - s.length) = zeros (47 - s.length) := by
    rw [← List.drop_drop, grd_drop9, List.append_assoc, List.drop_append_of_le_length (Nat.le_refl _), List.drop_length, List.nil_append]
    rw [List.take_append_of_le_length (by rw [zeros_len]; exact Nat.le_refl _), List.take_of_length_le (by rw [zeros_len]; exact Nat.le_refl _)]
  rw [grd_at8 a s hs, grd_take8, grd_drop56 hs, num8_eight a (by have := ha.2; omega), h9, grd_len hs]
  simp [ha.1, ha.2, hs]
theorem grd_ne {a : Nat} {s : T} (ha : Stm a) : grd a s ≠ noughts := fun e => by
  have h1 := grd_take8 a s
  rw [e, noughts_take8] at h1
  exact eight_ne ha h1.symm
theorem rd_grd {a : Nat} {s : T} (hs : s.length ≤ 47) (ha : Stm a) : rd (grd a s) = (s, a, 0) := by
  unfold rd
  rw [if_neg (grd_ne ha), if_pos (grd_isG hs ha), grd_at8 a s hs, grd_take8, num8_eight a (by have := ha.2; omega), grd_drop9, List.append_assoc, List.take_append_of_le_length (Nat.le_refl _), List.take_length]
end Grd
end Go.Proofs.YtdgfohffmbnjiaaGreatDoor

namespace Go.Proofs.YtdgfohffmbnjiaaGreatDoor
set_option linter.unusedVariables false

namespace Grd
open Dsk (St Sec Fall)
/-- A call: 1 a flush, 0 an erasing, else s is put. -/
structure GOp where
  kind : Int
  i : Int
  s : T
/-- Does it write sector i? -/
def valid (o : GOp) (i : Nat) : Bool := decide (o.i = (i : Int)) && decide (o.kind ≠ 1) && (decide (o.kind = 0) || decide (o.s.length ≤ 47))
/-- The place behind the last of the first k calls that writes sector i; 0: none does. -/
def sureTo (sc : List GOp) (i : Nat) : Nat → Nat
  | 0 => 0
  | k + 1 => match sc[k]? with
    | some o => if valid o i = true then k + 1 else sureTo sc i k
    | none => sureTo sc i k
theorem sureTo_le (sc : List GOp) (i : Nat) : ∀ k, sureTo sc i k ≤ k := by
  intro k
  induction k with
  | zero => exact Nat.le_refl _
  | succ k ih =>
    unfold sureTo
    split
    · split <;> omega
    · omega
/-- Bytes that a call writes. -/
def Fits (o : GOp) (b : T) : Prop := (o.kind = 0 ∧ b = noughts) ∨ (o.kind ≠ 0 ∧ o.kind ≠ 1 ∧ o.s.length ≤ 47 ∧ ∃ a, Stm a ∧ b = grd a o.s)
theorem Fits.cont {o : GOp} {b : T} (h : Fits o b) : Cont b := by
  rcases h with ⟨_, rfl⟩ | ⟨_, _, hs, a, ha, rfl⟩
  · exact Or.inl rfl
  · exact Or.inr ⟨a, o.s, rfl, hs, ha⟩
/-- The bytes b are those of the call ahead of place j (0: noughts). -/
def HoldsAt (sc : List GOp) (i j : Nat) (b : T) : Prop := (j = 0 ∧ b = noughts) ∨ ∃ k o, j = k + 1 ∧ sc[k]? = some o ∧ valid o i = true ∧ Fits o b
theorem HoldsAt.cont {sc : List GOp} {i j : Nat} {b : T} (h : HoldsAt sc i j b) : Cont b := by
  rcases h with ⟨_, rfl⟩ | ⟨k, o, _, _, _, hf⟩
  · exact Or.inl rfl
  · exact hf.cont
/-- Its stamp, if it has one, is at most n. -/
def StB (n : Nat) (b : T) : Prop := ∀ a s, b = grd a s → Stm a → a ≤ n
theorem StB.mono {n m : Nat} {b : T} (h : StB n b) (hm : n ≤ m) : StB m b := fun a s e ha => Nat.le_trans (h a s e ha) hm
theorem grd_inj {a b : Nat} {s t : T} (ha : Stm a) (hb : Stm b) (h : grd a s = grd b t) : a = b := by
  have := congrArg (fun l => List.take 8 l) h
  simp only [grd_take8] at this
  exact eight_inj (by have := ha.2; omega) (by have := hb.2; omega) this
/-- What is known of one sector. -/
def SecOk (sc : List GOp) (i k done n : Nat) (s : Sec) : Prop :=
  HoldsAt sc i (sureTo sc i done) s.sure ∧ StB n s.sure ∧
  ((s.pend = none ∧ sureTo sc i k = sureTo sc i done) ∨ ∃ p, s.pend = some p ∧ done < sureTo sc i k ∧ HoldsAt sc i (sureTo sc i k) p.1 ∧ StB n p.1 ∧ Apart p.1 s.sure)
def Inv (sc : List GOp) (k done n : Nat) (d : St) : Prop := d.secs.length = 10 ∧ done ≤ k ∧ ∀ i, i < 10 → ∃ s, d.secs[i]? = some s ∧ SecOk sc i k done n s

theorem inv_start (sc : List GOp) (n : Nat) (d : St) (h : d.secs = (Dsk.fresh 10).secs) : Inv sc 0 0 n d := by
  refine ⟨by rw [h]; exact List.length_replicate, Nat.le_refl _, fun i hi => ⟨⟨List.replicate 64 0, 0, none⟩, ?_, Or.inl ⟨rfl, rfl⟩, fun a s e ha => ?_, Or.inl ⟨rfl, rfl⟩⟩⟩
  · rw [h]
    show (List.replicate 10 _)[i]? = _
    rw [List.getElem?_replicate, if_pos hi]
  · exact absurd e.symm (grd_ne ha)
/-- A call that writes no sector of the ten. -/
theorem inv_skip {sc : List GOp} {k done n m : Nat} {d : St} (h : Inv sc k done n d) {o : GOp} (ho : sc[k]? = some o) (hv : ∀ i, i < 10 → valid o i = false) (hm : n ≤ m) {d' : St} (hd : d'.secs = d.secs) : Inv sc (k + 1) done m d' := by
  obtain ⟨h1, h2, h3⟩ := h
  refine ⟨by rw [hd]; exact h1, by omega, fun i hi => ?_⟩
  obtain ⟨s, hs, a1, a2, a3⟩ := h3 i hi
  have e : sureTo sc i (k + 1) = sureTo sc i k := by
    show (match sc[k]? with | some o => _ | none => _) = _
    rw [ho]
    dsimp only
    rw [if_neg (by rw [hv i hi]; decide)]
  refine ⟨s, by rw [hd]; exact hs, a1, a2.mono hm, ?_⟩
  rw [e]
  rcases a3 with a3 | ⟨p, b1, b2, b3, b4, b5⟩
  · exact Or.inl a3
  · exact Or.inr ⟨p, b1, b2, b3, b4.mono hm, b5⟩
/-- A sector is written. -/
theorem inv_write {sc : List GOp} {k done n m : Nat} {d : St} (h : Inv sc k done n d) {o : GOp} (ho : sc[k]? = some o) {j : Nat} (hj : j < 10) (hv : valid o j = true) {b : T} (hf : Fits o b) (hn : ∀ a s, b = grd a s → Stm a → n < a) (hb : StB m b) (hm : n ≤ m) {at_ : Nat}
    {d' : St} (hd : d'.secs = d.secs.modify j fun x => ⟨x.sure, x.at_, some (b, at_)⟩) : Inv sc (k + 1) done m d' := by
  obtain ⟨h1, h2, h3⟩ := h
  refine ⟨by rw [hd, List.length_modify]; exact h1, by omega, fun i hi => ?_⟩
  obtain ⟨s, hs, a1, a2, a3⟩ := h3 i hi
  have hs' : d'.secs[i]? = some (if j = i then ⟨s.sure, s.at_, some (b, at_)⟩ else s) := by
    rw [hd, List.getElem?_modify, hs]
    by_cases he : j = i
    · simp [he]
    · simp [he]
  by_cases he : j = i
  · subst he
    rw [if_pos rfl] at hs'
    have e : sureTo sc j (k + 1) = k + 1 := by
      show (match sc[k]? with | some o => _ | none => _) = _
      rw [ho]
      dsimp only
      rw [if_pos hv]
    refine ⟨_, hs', a1, a2.mono hm, Or.inr ⟨(b, at_), rfl, by omega, ?_, hb, ?_⟩⟩
    · rw [e]
      exact Or.inr ⟨k, o, rfl, ho, hv, hf⟩
    · intro x s1 y s2 e1 e2 hx hy hxy
      have q1 := hn x s1 e1 hx
      have q2 := a2 y s2 e2 hy
      omega
  · rw [if_neg he] at hs'
    have hvi : valid o i = false := by
      rw [Bool.eq_false_iff]
      intro hc
      unfold valid at hv hc
      simp only [Bool.and_eq_true, decide_eq_true_eq] at hv hc
      have := hv.1.1
      have := hc.1.1
      omega
    have e : sureTo sc i (k + 1) = sureTo sc i k := by
      show (match sc[k]? with | some o => _ | none => _) = _
      rw [ho]
      dsimp only
      rw [if_neg (by rw [hvi]; decide)]
    refine ⟨s, hs', a1, a2.mono hm, ?_⟩
    rw [e]
    rcases a3 with a3 | ⟨p, b1, b2, b3, b4, b5⟩
    · exact Or.inl a3
    · exact Or.inr ⟨p, b1, b2, b3, b4.mono hm, b5⟩
/-- A flush went well. -/
theorem inv_flush {sc : List GOp} {k done n : Nat} {d : St} (h : Inv sc k done n d) {o : GOp} (ho : sc[k]? = some o) (hk : o.kind = 1) {d' : St} (hd : d'.secs = d.secs.map Dsk.flushed) : Inv sc (k + 1) (k + 1) n d' := by
  obtain ⟨h1, h2, h3⟩ := h
  refine ⟨by rw [hd, List.length_map]; exact h1, Nat.le_refl _, fun i hi => ?_⟩
  obtain ⟨s, hs, a1, a2, a3⟩ := h3 i hi
  have e : sureTo sc i (k + 1) = sureTo sc i k := by
    show (match sc[k]? with | some o => _ | none => _) = _
    rw [ho]
    dsimp only
    rw [if_neg (by unfold valid; rw [hk]; simp)]
  refine ⟨Dsk.flushed s, by rw [hd, List.getElem?_map, hs]; rfl, ?_⟩
  unfold SecOk
  rw [e]
  rcases a3 with ⟨b1, b2⟩ | ⟨p, b1, b2, b3, b4, b5⟩
  · have hfl : Dsk.flushed s = s := by unfold Dsk.flushed; rw [b1]
    rw [hfl, b2]
    exact ⟨a1, a2, Or.inl ⟨b1, rfl⟩⟩
  · have hfl : Dsk.flushed s = ⟨p.1, p.2, none⟩ := by unfold Dsk.flushed; rw [b1]
    rw [hfl]
    exact ⟨b3, b4, Or.inl ⟨rfl, rfl⟩⟩

/-! what the statement asks of a sector -/
/-- Does the call at place k speak of sector i, no earlier than sure? -/
def asks (sc : List GOp) (i sure k : Nat) : Bool := match sc[k]? with
  | some o => decide (o.i = (i : Int)) && decide (o.kind ≠ 1) && decide (sure ≤ k + 1)
  | none => false
def later (sc : List GOp) (i sure : Nat) : Nat → Bool
  | 0 => false
  | k + 1 => later sc i sure k || (asks sc i sure k && decide (sure < k + 1))
def okBy (sc : List GOp) (i sure : Nat) (r : T × Nat × Int) (k : Nat) : Bool := asks sc i sure k && match sc[k]? with
  | some o => if o.kind = 0 then decide (r.2.2 = 7) else decide (r.2.2 = 0) && decide (r.1 = o.s)
  | none => false
def okTo (sc : List GOp) (i sure : Nat) (r : T × Nat × Int) : Nat → Bool
  | 0 => decide (sure = 0) && decide (r.2.2 = 7)
  | k + 1 => okTo sc i sure r k || okBy sc i sure r k
theorem okTo_of {sc : List GOp} {i sure : Nat} {r : T × Nat × Int} {k : Nat} (h : okBy sc i sure r k = true) : ∀ m, k < m → okTo sc i sure r m = true := by
  intro m
  induction m with
  | zero => intro h; omega
  | succ m ih =>
    intro hm
    unfold okTo
    by_cases he : k = m
    · subst he; rw [h, Bool.or_true]
    · rw [ih (by omega), Bool.true_or]
theorem okTo_zero {sc : List GOp} {i sure : Nat} {r : T × Nat × Int} (h : (decide (sure = 0) && decide (r.2.2 = 7)) = true) : ∀ m, okTo sc i sure r m = true := by
  intro m
  induction m with
  | zero => exact h
  | succ m ih => unfold okTo; rw [ih, Bool.true_or]
theorem later_of {sc : List GOp} {i sure k : Nat} (h : asks sc i sure k = true) (hs : sure < k + 1) : ∀ m, k < m → later sc i sure m = true := by
  intro m
  induction m with
  | zero => intro h; omega
  | succ m ih =>
    intro hm
    unfold later
    by_cases he : k = m
    · subst he; rw [h, decide_eq_true hs]; simp
    · rw [ih (by omega), Bool.true_or]
theorem valid_asks {sc : List GOp} {i sure k : Nat} {o : GOp} (ho : sc[k]? = some o) (hv : valid o i = true) (hs : sure ≤ k + 1) : asks sc i sure k = true := by
  unfold asks
  rw [ho]
  unfold valid at hv
  simp only [Bool.and_eq_true, decide_eq_true_eq] at hv
  simp [hv.1.1, hv.1.2, hs]
/-- Bytes of the call at a place answer for it. -/
theorem holds_ok {sc : List GOp} {i j sure m : Nat} {b : T} (h : HoldsAt sc i j b) (hs : sure ≤ j) (hz : j = 0 → sure = 0) (hm : j ≤ m) : okTo sc i sure (rd b) m = true := by
  rcases h with ⟨rfl, rfl⟩ | ⟨k, o, rfl, ho, hv, hf⟩
  · exact okTo_zero (by rw [rd_noughts]; simp; omega) m
  · refine okTo_of (k := k) ?_ m (by omega)
    unfold okBy
    rw [valid_asks ho hv hs, ho, Bool.true_and]
    dsimp only
    rcases hf with ⟨hk, rfl⟩ | ⟨hk, _, hl, a, ha, rfl⟩
    · rw [if_pos hk, rd_noughts]; rfl
    · rw [if_neg hk, rd_grd hl ha]; simp
/-- **WHOLE, OR TOLD TO BE TORN.** -/
theorem whole {sc : List GOp} {k done n m : Nat} {d : St} (h : Inv sc k done n d) (hk : k ≤ m) (f : Fall) {i : Nat} (hi : i < 10) :
    ∃ s, (Dsk.fallGo f 0 d.secs)[i]? = some s ∧ (okTo sc i (sureTo sc i done) (rd s.sure) m || (decide ((rd s.sure).2.2 = 17) && later sc i (sureTo sc i done) m)) = true := by
  obtain ⟨h1, h2, h3⟩ := h
  obtain ⟨s, hs, a1, a2, a3⟩ := h3 i hi
  have hsd := sureTo_le sc i done
  have hsk := sureTo_le sc i k
  -- what becomes of sector i
  have hgo : ∀ (L : List Sec) (q j : Nat) (s : Sec), L[j]? = some s → ∃ q', (Dsk.fallGo f q L)[j]? = some (match s.pend with | some p => Dsk.fallOne f q' s p | none => s) := by
    intro L
    induction L with
    | nil => intro q j s hs; simp at hs
    | cons x r ih =>
      intro q j s hs
      unfold Dsk.fallGo
      cases j with
      | zero =>
        rw [List.getElem?_cons_zero] at hs
        injection hs with hs
        subst hs
        refine ⟨q, ?_⟩
        cases hp : x.pend with
        | none => rfl
        | some p => rfl
      | succ j =>
        rw [List.getElem?_cons_succ] at hs
        cases hp : x.pend with
        | none =>
          obtain ⟨q', hq⟩ := ih q j s hs
          exact ⟨q', by rw [List.getElem?_cons_succ]; exact hq⟩
        | some p =>
          obtain ⟨q', hq⟩ := ih (q + 1) j s hs
          exact ⟨q', by rw [List.getElem?_cons_succ]; exact hq⟩
  obtain ⟨q, hq⟩ := hgo d.secs 0 i s hs
  refine ⟨_, hq, ?_⟩
  have hA : okTo sc i (sureTo sc i done) (rd s.sure) m = true := holds_ok a1 (Nat.le_refl _) (fun e => e) (by omega)
  rcases a3 with ⟨b1, b2⟩ | ⟨p, b1, b2, b3, b4, b5⟩
  · rw [b1]
    dsimp only
    rw [hA, Bool.true_or]
  · rw [b1]
    dsimp only
    have hB : okTo sc i (sureTo sc i done) (rd p.1) m = true := holds_ok b3 (by omega) (fun e => by omega) (by omega)
    have hLat : later sc i (sureTo sc i done) m = true := by
      rcases b3 with ⟨e, _⟩ | ⟨k', o, e, ho, hv, _⟩
      · omega
      · exact later_of (valid_asks ho hv (by omega)) (by omega) m (by omega)
    unfold Dsk.fallOne
    split
    · dsimp only
      have hc := Dsk.cut_lt f
      split
      · rw [List.take_append_drop]
        rw [hB, Bool.true_or]
      · rcases mix b3.cont a1.cont b5 (Dsk.cut f) hc with e | e | e
        · rw [e, hB, Bool.true_or]
        · rw [e, hA, Bool.true_or]
        · rw [decide_eq_true e, hLat]
          simp
    · split
      · dsimp only
        rw [hB, Bool.true_or]
      · dsimp only
        rw [hA, Bool.true_or]
end Grd
end Go.Proofs.YtdgfohffmbnjiaaGreatDoor

namespace Go.Proofs.YtdgfohffmbnjiaaGreatDoor
set_option linter.unusedVariables false

namespace Grd
open Dsk (St Sec Fall)
/-- The stamp of the next sector that is put. -/
def stamp (boot wr : Nat) : Nat := boot * 4294967296 + wr + 1
/-- What Put answers (stamp, code), how many sectors were then written, and the disk. -/
def put (boot wr : Nat) (d : Dsk.St) (i : Int) (s : T) : Int × Int × Nat × Dsk.St :=
  if 47 < s.length then (0, 3, wr, d) else if wr = 4294967295 then (0, 6, wr, d)
  else if (Dsk.write d i (grd (stamp boot wr) s)).1 ≠ 0 then (0, (Dsk.write d i (grd (stamp boot wr) s)).1, wr, (Dsk.write d i (grd (stamp boot wr) s)).2)
  else ((stamp boot wr : Int), 0, wr + 1, (Dsk.write d i (grd (stamp boot wr) s)).2)

/-- What is read of a disk's sector. -/
def read (d : Dsk.St) (i : Int) : T × Int × Int :=
  if (Dsk.read d i).2 ≠ 0 then ([], 0, (Dsk.read d i).2) else ((rd (Dsk.read d i).1).1, ((rd (Dsk.read d i).1).2.1 : Int), (rd (Dsk.read d i).1).2.2)
theorem read_len {d : Dsk.St} (h : Dsk.Good d) (i : Int) (h0 : (Dsk.read d i).2 = 0) : (Dsk.read d i).1.length = 64 := by
  unfold Dsk.read at h0 ⊢
  by_cases hu : d.up = false
  · rw [if_pos hu] at h0
    cases h0
  · rw [if_neg hu] at h0 ⊢
    by_cases hi : ¬ (0 ≤ i ∧ i < (d.secs.length : Int))
    · rw [if_pos hi] at h0
      cases h0
    · rw [if_neg hi]
      have hi : 0 ≤ i ∧ i < (d.secs.length : Int) := Classical.not_not.1 hi
      have hl : i.toNat < d.secs.length := by omega
      show (((d.secs[i.toNat]?).map Dsk.Sec.now).getD []).length = 64
      rw [List.getElem?_eq_getElem hl, Option.map_some, Option.getD_some]
      have hf := h _ (List.getElem_mem hl)
      unfold Dsk.Sec.now
      split
      · rename_i p hp
        exact hf.2 p hp
      · exact hf.1
/-- The power is on. -/
structure WUp (L : List GOp) (f : Fall) (k done wr : Nat) (d : St) : Prop where
  up : d.up = true
  arm : ∀ n f', d.arm = some (n, f') → f' = f
  inv : Inv L k done (4294967296 + wr) d
  wr : wr ≤ k
  acts : d.acts ≤ k
  falls : d.falls = 0
/-- The power has gone, by f. -/
structure WDown (L : List GOp) (f : Fall) (k done : Nat) (d : St) : Prop where
  up : d.up = false
  acts : d.acts ≤ k
  falls : d.falls ≤ 1
  was : ∃ k0 n d0, k0 ≤ k ∧ Inv L k0 done n d0 ∧ d.secs = Dsk.fallGo f 0 d0.secs
def WInv (L : List GOp) (f : Fall) (k done wr : Nat) (d : St) : Prop := wr ≤ k ∧ (WUp L f k done wr d ∨ WDown L f k done d)
theorem WInv.acts {L : List GOp} {f : Fall} {k done wr : Nat} {d : St} (h : WInv L f k done wr d) : d.acts ≤ k := h.2.elim (·.acts) (·.acts)
theorem WInv.falls {L : List GOp} {f : Fall} {k done wr : Nat} {d : St} (h : WInv L f k done wr d) : d.falls ≤ 1 := h.2.elim (fun x => by rw [x.falls]; omega) (·.falls)
theorem WInv.ups {L : List GOp} {f : Fall} {k done wr : Nat} {d : St} (h : WInv L f k done wr d) (hu : d.up = true) : WUp L f k done wr d := h.2.elim id (fun x => by rw [x.up] at hu; cases hu)
theorem Inv.done_le {sc : List GOp} {k done n : Nat} {d : St} (h : Inv sc k done n d) : done ≤ k := h.2.1
theorem WInv.done_le {L : List GOp} {f : Fall} {k done wr : Nat} {d : St} (h : WInv L f k done wr d) : done ≤ k := h.2.elim (fun x => x.inv.done_le) (fun x => by
  obtain ⟨k0, n, d0, h1, h2, _⟩ := x.was
  have := h2.done_le
  omega)
theorem w_act {L : List GOp} {f : Fall} {k done wr : Nat} {d : St} (h : WUp L f k done wr d) :
    ((Dsk.act d).1 = false ∧ WDown L f (k + 1) done (Dsk.act d).2) ∨
    ((Dsk.act d).1 = true ∧ (Dsk.act d).2.secs = d.secs ∧ (Dsk.act d).2.up = true ∧ (∀ n f', (Dsk.act d).2.arm = some (n, f') → f' = f) ∧ (Dsk.act d).2.acts ≤ k + 1 ∧ (Dsk.act d).2.falls = 0) := by
  have h1 := h.acts
  have h2 := h.falls
  cases ha : d.arm with
  | none =>
    right
    have e : Dsk.act d = (true, { d with acts := d.acts + 1 }) := by unfold Dsk.act; rw [ha]
    rw [e]
    exact ⟨rfl, rfl, h.up, fun n f' h' => h.arm n f' h', by show d.acts + 1 ≤ k + 1; omega, h.falls⟩
  | some p =>
    obtain ⟨n, f'⟩ := p
    have hf := h.arm n f' ha
    subst hf
    cases n with
    | zero =>
      left
      have e : Dsk.act d = (false, Dsk.fall f' d) := by unfold Dsk.act; rw [ha]
      rw [e]
      exact ⟨rfl, rfl, by show d.acts ≤ k + 1; omega, by show d.falls + 1 ≤ 1; omega, k, _, d, by omega, h.inv, rfl⟩
    | succ n =>
      right
      have e : Dsk.act d = (true, { d with arm := some (n, f'), acts := d.acts + 1 }) := by unfold Dsk.act; rw [ha]
      rw [e]
      refine ⟨rfl, rfl, h.up, fun n2 f2 h' => ?_, by show d.acts + 1 ≤ k + 1; omega, h.falls⟩
      have h'' : some (n, f') = some (n2, f2) := h'
      injection h'' with h''
      injection h'' with _ h''
      exact h''.symm
theorem w_flush {L : List GOp} {f : Fall} {k done wr : Nat} {d : St} (h : WUp L f k done wr d) {o : GOp} (ho : L[k]? = some o) (hk : o.kind = 1) :
    ((Dsk.flush d).1 = 0 ∧ WInv L f (k + 1) (k + 1) wr (Dsk.flush d).2) ∨ ((Dsk.flush d).1 = 8 ∧ WInv L f (k + 1) done wr (Dsk.flush d).2) := by
  have hwr := h.wr
  have e : Dsk.flush d = if (Dsk.act d).1 = false then (8, (Dsk.act d).2) else (0, { (Dsk.act d).2 with secs := (Dsk.act d).2.secs.map Dsk.flushed }) := by
    unfold Dsk.flush
    rw [if_neg (by rw [h.up]; decide)]
  rcases w_act h with ⟨a, b⟩ | ⟨a, b1, b2, b3, b4, b5⟩
  · right
    rw [e, if_pos a]
    exact ⟨rfl, by omega, Or.inr b⟩
  · left
    rw [e, if_neg (by rw [a]; decide)]
    refine ⟨rfl, by omega, Or.inl ⟨b2, b3, inv_flush h.inv ho hk (by show (Dsk.act d).2.secs.map _ = _; rw [b1]), by omega, b4, b5⟩⟩
/-- Bytes are written. -/
theorem w_write {L : List GOp} {f : Fall} {k done wr wr' : Nat} {d : St} (h : WUp L f k done wr d) {o : GOp} (ho : L[k]? = some o) {b : T} (h64 : b.length = 64)
    (hv : ∀ j : Nat, valid o j = decide (o.i = (j : Int))) (hf : Fits o b) (hw : wr ≤ wr') (hw' : wr' ≤ wr + 1) (hn : ∀ a s, b = grd a s → Stm a → 4294967296 + wr < a) (hb : StB (4294967296 + wr') b) :
    ((Dsk.write d o.i b).1 = 0 ∧ WInv L f (k + 1) done wr' (Dsk.write d o.i b).2) ∨ ((Dsk.write d o.i b).1 ≠ 0 ∧ WInv L f (k + 1) done wr (Dsk.write d o.i b).2) := by
  have hwr := h.wr
  have hacts := h.acts
  have hlen := h.inv.1
  by_cases hi : 0 ≤ o.i ∧ o.i < (d.secs.length : Int)
  · have e : Dsk.write d o.i b = if (Dsk.act d).1 = false then (8, (Dsk.act d).2) else (0, Dsk.put (Dsk.act d).2 o.i.toNat b) := by
      unfold Dsk.write
      rw [if_neg (by rw [h.up]; decide), if_neg (fun hn => hn hi), if_neg (by omega)]
    rcases w_act h with ⟨a, b0⟩ | ⟨a, b1, b2, b3, b4, b5⟩
    · right
      rw [e, if_pos a]
      exact ⟨show (8 : Int) ≠ 0 by decide, by omega, Or.inr b0⟩
    · left
      rw [e, if_neg (by rw [a]; decide)]
      refine ⟨rfl, by omega, Or.inl ⟨b2, b3, ?_, by omega, b4, b5⟩⟩
      have hj : o.i.toNat < 10 := by omega
      exact inv_write h.inv ho hj (by rw [hv]; exact decide_eq_true (by omega)) hf hn hb (by omega) (at_ := (Dsk.act d).2.acts) (by
        show (Dsk.act d).2.secs.modify _ _ = _
        rw [b1])
  · right
    have e : Dsk.write d o.i b = (5, d) := by
      unfold Dsk.write
      rw [if_neg (by rw [h.up]; decide), if_pos hi]
    rw [e]
    refine ⟨show (5 : Int) ≠ 0 by decide, by omega, Or.inl ⟨h.up, h.arm, inv_skip h.inv ho (fun j hj => ?_) (Nat.le_refl _) rfl, by omega, by show d.acts ≤ k + 1; omega, h.falls⟩⟩
    rw [hv]
    exact decide_eq_false (by omega)
theorem w_erase {L : List GOp} {f : Fall} {k done wr : Nat} {d : St} (h : WUp L f k done wr d) {o : GOp} (ho : L[k]? = some o) (hk : o.kind = 0) : WInv L f (k + 1) done wr (Dsk.write d o.i noughts).2 := by
  have hw := w_write (wr' := wr) h ho noughts_len (fun j => by unfold valid; rw [hk]; simp) (Or.inl ⟨hk, rfl⟩) (Nat.le_refl _) (by omega) (fun a s e ha => absurd e.symm (grd_ne ha)) (fun a s e ha => absurd e.symm (grd_ne ha))
  exact hw.elim (·.2) (·.2)
theorem w_put {L : List GOp} {f : Fall} {k done wr : Nat} {d : St} (h : WUp L f k done wr d) (hk40 : k < 40) {o : GOp} (ho : L[k]? = some o) (hk : o.kind ≠ 0) (hk1 : o.kind ≠ 1) : WInv L f (k + 1) done (put 1 wr d o.i o.s).2.2.1 (put 1 wr d o.i o.s).2.2.2 := by
  have hwr := h.wr
  have hacts := h.acts
  unfold put
  by_cases hl : 47 < o.s.length
  · rw [if_pos hl]
    refine ⟨by show wr ≤ k + 1; omega, Or.inl ⟨h.up, h.arm, inv_skip h.inv ho (fun j hj => ?_) (Nat.le_refl _) rfl, by show wr ≤ k + 1; omega, by show d.acts ≤ k + 1; omega, h.falls⟩⟩
    unfold valid
    rw [decide_eq_false hk, decide_eq_false (show ¬ o.s.length ≤ 47 by omega)]
    simp
  · rw [if_neg hl, if_neg (by omega)]
    have hs : stamp 1 wr = 4294967296 + wr + 1 := by unfold stamp; omega
    have hst : Stm (stamp 1 wr) := ⟨by omega, by omega⟩
    have hl' : o.s.length ≤ 47 := by omega
    have hw := w_write (wr' := wr + 1) (b := grd (stamp 1 wr) o.s) h ho (grd_len hl') (fun j => by
      unfold valid
      rw [decide_eq_true hl', decide_eq_true hk1]
      simp) (Or.inr ⟨hk, hk1, hl', _, hst, rfl⟩) (by omega) (Nat.le_refl _) (fun a s e ha => by
      have := grd_inj hst ha e
      omega) (fun a s e ha => by
      have := grd_inj hst ha e
      omega)
    rcases hw with ⟨a, b⟩ | ⟨a, b⟩
    · rw [if_neg (fun hn => hn a)]
      exact b
    · rw [if_pos a]
      exact b
/-- The beginning. -/
theorem w_start (L : List GOp) (f : Fall) (n : Nat) (d : St) (hs : d.secs = (Dsk.fresh 10).secs) (hu : d.up = true) (ha : d.acts = 0) (hf : d.falls = 0) (harm : d.arm = some (n, f)) : WInv L f 0 0 0 d :=
  ⟨Nat.le_refl _, Or.inl ⟨hu, fun n' f' h => by rw [harm] at h; injection h with h; injection h with _ h; exact h.symm, inv_start L _ d hs, Nat.le_refl _, by omega, hf⟩⟩
/-- The power goes, if it has not gone. -/
theorem w_crash {L : List GOp} {f : Fall} {k done wr : Nat} {d : St} (h : WInv L f k done wr d) :
    (Dsk.crash d f).2.up = false ∧ (Dsk.crash d f).2.acts ≤ k ∧ (Dsk.crash d f).2.falls ≤ 1 ∧ ∃ k0 n d0, k0 ≤ k ∧ Inv L k0 done n d0 ∧ (Dsk.crash d f).2.secs = Dsk.fallGo f 0 d0.secs := by
  rcases h.2 with hu | hd
  · have e : Dsk.crash d f = (0, Dsk.fall f d) := by unfold Dsk.crash; rw [if_neg (by rw [hu.up]; decide)]
    rw [e]
    exact ⟨rfl, hu.acts, by show d.falls + 1 ≤ 1; rw [hu.falls]; omega, k, _, d, Nat.le_refl _, hu.inv, rfl⟩
  · have e : Dsk.crash d f = (8, d) := by unfold Dsk.crash; rw [if_pos hd.up]
    rw [e]
    exact ⟨hd.up, hd.acts, hd.falls, hd.was⟩
end Grd
end Go.Proofs.YtdgfohffmbnjiaaGreatDoor

namespace Go.Proofs.YtdgfohffmbnjiaaGreatDoor
set_option linter.unusedVariables false

namespace Sup
open Dsk (St Fall)
/-- Code, how many sectors the guard has written, the disk. -/
def save (boot wr : Nat) (d : St) (s : Sup) : Int × Nat × St :=
  if right s = false then (1, wr, d)
  else if (Grd.put boot wr d (s.gen % 2) (enc s)).2.1 ≠ 0 then ((Grd.put boot wr d (s.gen % 2) (enc s)).2.1, (Grd.put boot wr d (s.gen % 2) (enc s)).2.2.1, (Grd.put boot wr d (s.gen % 2) (enc s)).2.2.2)
  else ((Dsk.flush (Grd.put boot wr d (s.gen % 2) (enc s)).2.2.2).1, (Grd.put boot wr d (s.gen % 2) (enc s)).2.2.1, (Dsk.flush (Grd.put boot wr d (s.gen % 2) (enc s)).2.2.2).2)
def bad (c : Int) : Bool := decide (c ≠ 0) && decide (c ≠ 7) && decide (c ≠ 17)
def look (i : Nat) (r : T × Int × Int) : Option Sup := if r.2.2 = 0 then find i r.1 else none
def found (d : St) : Option Sup := pick (look 0 (Grd.read d 0)) (look 1 (Grd.read d 1))
def load (d : St) : Sup × Int :=
  if bad (Grd.read d 0).2.2 = true then (zero, (Grd.read d 0).2.2) else if bad (Grd.read d 1).2.2 = true then (zero, (Grd.read d 1).2.2)
  else match found d with | none => (zero, 7) | some s => (s, 0)

/-! what is read of a disk whose sectors last -/
theorem read_now {d : St} {i : Nat} {x : Dsk.Sec} (hu : d.up = true) (hx : d.secs[i]? = some x) : Dsk.read d (i : Int) = (x.now, 0) := by
  have hl := (List.getElem?_eq_some_iff.1 hx).1
  unfold Dsk.read
  rw [if_neg (by rw [hu]; decide), if_neg (by omega), Int.toNat_natCast, hx]
  rfl
theorem gread_now {d : St} {i : Nat} {x : Dsk.Sec} (hu : d.up = true) (hx : d.secs[i]? = some x) : Grd.read d (i : Int) = ((Grd.rd x.now).1, ((Grd.rd x.now).2.1 : Int), (Grd.rd x.now).2.2) := by
  unfold Grd.read
  rw [read_now hu hx, if_neg (by simp)]
theorem rd_codes (b : T) : (Grd.rd b).2.2 = 0 ∨ (Grd.rd b).2.2 = 7 ∨ (Grd.rd b).2.2 = 17 := by
  unfold Grd.rd
  split
  · exact Or.inr (Or.inl rfl)
  · split
    · exact Or.inl rfl
    · exact Or.inr (Or.inr rfl)
theorem not_bad (b : T) : bad (Grd.rd b).2.2 = false := by
  unfold bad
  rcases rd_codes b with h | h | h <;> rw [h] <;> rfl
/-- What a sector's bytes are loaded as. -/
def lookB (i : Nat) (b : T) : Option Sup := if (Grd.rd b).2.2 = 0 then find i (Grd.rd b).1 else none
theorem load_two {d : St} {x y : Dsk.Sec} (hu : d.up = true) (hx : d.secs[0]? = some x) (hy : d.secs[1]? = some y) :
    load d = match pick (lookB 0 x.now) (lookB 1 y.now) with | none => (zero, 7) | some s => (s, 0) := by
  have h0 := gread_now (i := 0) hu hx
  have h1 := gread_now (i := 1) hu hy
  unfold load
  rw [show ((0 : Nat) : Int) = 0 from rfl] at h0
  rw [show ((1 : Nat) : Int) = 1 from rfl] at h1
  rw [h0, h1, if_neg (by dsimp only; rw [not_bad]; decide), if_neg (by dsimp only; rw [not_bad]; decide)]
  unfold found
  rw [h0, h1]
  rfl
theorem lookB_noughts (i : Nat) : lookB i Grd.noughts = none := by
  unfold lookB
  rw [Grd.rd_noughts]
  rfl
theorem lookB_torn {i : Nat} {b : T} (h : (Grd.rd b).2.2 = 17) : lookB i b = none := by
  unfold lookB
  rw [if_neg (by rw [h]; decide)]
theorem lookB_grd {i a : Nat} {s : Sup} (hs : right s = true) (ha : Grd.Stm a) (hi : s.gen % 2 = (i : Int)) : lookB i (Grd.grd a (enc s)) = some s := by
  unfold lookB
  rw [Grd.rd_grd (enc_len hs) ha]
  show (if (0 : Int) = 0 then find i (enc s) else none) = some s
  rw [if_pos rfl]
  exact find_iff.2 ⟨hs, hi, rfl⟩
/-- **OF THE OLD ONE AND WHAT MAY LIE IN THE OTHER SECTOR ONE OF BOTH IS LOADED.** -/
theorem load_either {d : St} {s n : Sup} {a : Nat} {x y : Dsk.Sec} (hu : d.up = true) (hs : right s = true) (hn : right n = true) (hg : n.gen = s.gen + 1) (ha : Grd.Stm a)
    (hx : d.secs[(s.gen % 2).toNat]? = some x) (hy : d.secs[(n.gen % 2).toNat]? = some y) (hxn : x.now = Grd.grd a (enc s))
    (hyn : ∀ i : Nat, n.gen % 2 = (i : Int) → lookB i y.now = none ∨ lookB i y.now = some n) : load d = (s, 0) ∨ load d = (n, 0) := by
  have hm : s.gen % 2 = 0 ∨ s.gen % 2 = 1 := by omega
  rcases hm with h0 | h0
  · have h1 : n.gen % 2 = 1 := by omega
    rw [h0] at hx
    rw [h1] at hy
    have hl := load_two hu hx hy
    rw [hxn, lookB_grd (i := 0) hs ha h0] at hl
    rcases hyn 1 h1 with e | e
    · left
      rw [hl, e]
      rfl
    · right
      have hp : pick (some s) (some n) = some n := by simp only [pick]; rw [if_pos (by omega)]
      rw [hl, e, hp]
  · have h1 : n.gen % 2 = 0 := by omega
    rw [h0] at hx
    rw [h1] at hy
    have hl := load_two hu hy hx
    rw [hxn, lookB_grd (i := 1) hs ha h0] at hl
    rcases hyn 0 h1 with e | e
    · left
      rw [hl, e]
      rfl
    · right
      have hp : pick (some n) (some s) = some n := by simp only [pick]; rw [if_neg (by omega)]
      rw [hl, e, hp]
/-- What a loss leaves of a sector of noughts into which a superblock was written. -/
theorem look_fall {i b : Nat} {n : Sup} (hn : right n = true) (hb : Grd.Stm b) (hi : n.gen % 2 = (i : Int)) (f : Fall) (k : Nat) (s : Dsk.Sec) (p : T × Nat) (hs : s.sure = Grd.noughts) (hp : p.1 = Grd.grd b (enc n)) :
    lookB i (Dsk.fallOne f k s p).sure = none ∨ lookB i (Dsk.fallOne f k s p).sure = some n := by
  have hc := Dsk.cut_lt f
  have hG := lookB_grd (i := i) hn hb hi
  unfold Dsk.fallOne
  split
  · dsimp only
    split
    · rw [List.take_append_drop, hp]
      exact Or.inr hG
    · rw [hs, hp]
      have cP : Grd.Cont (Grd.grd b (enc n)) := Or.inr ⟨b, enc n, rfl, enc_len hn, hb⟩
      have cQ : Grd.Cont Grd.noughts := Or.inl rfl
      have hA : Grd.Apart (Grd.grd b (enc n)) Grd.noughts := fun a t c u _ e2 _ hc2 => absurd e2.symm (Grd.grd_ne hc2)
      rcases Grd.mix cP cQ hA (Dsk.cut f) hc with e | e | e
      · rw [e]; exact Or.inr hG
      · rw [e]; exact Or.inl (lookB_noughts i)
      · exact Or.inl (lookB_torn e)
  · split
    · dsimp only
      rw [hp]
      exact Or.inr hG
    · dsimp only
      rw [hs]
      exact Or.inl (lookB_noughts i)
end Sup
end Go.Proofs.YtdgfohffmbnjiaaGreatDoor

namespace Go.Proofs.YtdgfohffmbnjiaaGreatDoor
set_option linter.unusedVariables false

namespace Sup
open Dsk (St Fall Sec)
theorem write_in {d : St} {i : Nat} {x : T} (hu : d.up = true) (ha : d.arm = none) (hi : i < d.secs.length) (hx : x.length = 64) :
    Dsk.write d (i : Int) x = (0, Dsk.put { d with acts := d.acts + 1 } i x) := by
  unfold Dsk.write
  rw [if_neg (by rw [hu]; decide), if_neg (by omega), if_neg (by omega)]
  unfold Dsk.act
  rw [ha]
  rfl
theorem flush_ok {d : St} (hu : d.up = true) (ha : d.arm = none) : Dsk.flush d = (0, { d with acts := d.acts + 1, secs := d.secs.map Dsk.flushed }) := by
  unfold Dsk.flush
  rw [if_neg (by rw [hu]; decide)]
  unfold Dsk.act
  rw [ha]
  rfl
/-- The sector of a superblock. -/
def at_ (s : Sup) : Nat := (s.gen % 2).toNat
theorem at_lt (s : Sup) : at_ s < 2 := by unfold at_; omega
theorem at_int (s : Sup) : s.gen % 2 = (at_ s : Int) := by unfold at_; omega
/-- The disk behind a save. -/
def saved (boot wr : Nat) (d : St) (s : Sup) : St :=
  { d with acts := d.acts + 2, secs := (d.secs.modify (at_ s) fun x => ⟨x.sure, x.at_, some (Grd.grd (Grd.stamp boot wr) (enc s), d.acts + 1)⟩).map Dsk.flushed }
theorem save_bad {s : Sup} (h : right s = false) (boot wr : Nat) (d : St) : save boot wr d s = (1, wr, d) := by
  unfold save
  rw [if_pos h]
theorem put_ok {s : Sup} {boot wr : Nat} {d : St} (h : right s = true) (hu : d.up = true) (ha : d.arm = none) (hl : 2 ≤ d.secs.length) (hw : wr < 4294967295) :
    Grd.put boot wr d (s.gen % 2) (enc s) = ((Grd.stamp boot wr : Int), 0, wr + 1, Dsk.put { d with acts := d.acts + 1 } (at_ s) (Grd.grd (Grd.stamp boot wr) (enc s))) := by
  have hlen := enc_len h
  have := at_lt s
  unfold Grd.put
  rw [if_neg (by omega), if_neg (by omega), at_int s, write_in hu ha (by omega) (Grd.grd_len hlen)]
  rfl
theorem save_ok {s : Sup} {boot wr : Nat} {d : St} (h : right s = true) (hu : d.up = true) (ha : d.arm = none) (hl : 2 ≤ d.secs.length) (hw : wr < 4294967295) : save boot wr d s = (0, wr + 1, saved boot wr d s) := by
  unfold save
  rw [if_neg (by rw [h]; decide), put_ok h hu ha hl hw]
  dsimp only
  rw [if_neg (by simp), flush_ok (by exact hu) (by exact ha)]
  rfl
/-- The sectors that last behind a save. -/
theorem saved_at {s : Sup} {boot wr : Nat} {d : St} (hl : 2 ≤ d.secs.length) : (saved boot wr d s).secs[at_ s]? = some ⟨Grd.grd (Grd.stamp boot wr) (enc s), d.acts + 1, none⟩ := by
  have := at_lt s
  show (List.map _ (List.modify _ _ _))[at_ s]? = _
  rw [List.getElem?_map, List.getElem?_modify, List.getElem?_eq_getElem (by omega)]
  simp [Dsk.flushed]
theorem saved_other {s : Sup} {boot wr : Nat} {d : St} {j : Nat} (hj : j ≠ at_ s) : (saved boot wr d s).secs[j]? = (d.secs[j]?).map Dsk.flushed := by
  show (List.map _ (List.modify _ _ _))[j]? = _
  rw [List.getElem?_map, List.getElem?_modify]
  cases d.secs[j]? with
  | none => rfl
  | some x =>
    have e : ¬ at_ s = j := fun e => hj e.symm
    simp [e]
/-- What waits nowhere is as it was behind a fall. -/
theorem fallGo_id {f : Fall} : ∀ (L : List Sec) (k : Nat), (∀ x ∈ L, x.pend = none) → Dsk.fallGo f k L = L := by
  intro L
  induction L with
  | nil => intros; rfl
  | cons x r ih =>
    intro k h
    unfold Dsk.fallGo
    rw [h x (by simp)]
    dsimp only
    rw [ih k (fun y hy => h y (by simp [hy]))]
theorem saved_pend {s : Sup} {boot wr : Nat} {d : St} : ∀ x ∈ (saved boot wr d s).secs, x.pend = none := by
  intro x hx
  have hx' : x ∈ List.map Dsk.flushed (d.secs.modify (at_ s) fun x => ⟨x.sure, x.at_, some (Grd.grd (Grd.stamp boot wr) (enc s), d.acts + 1)⟩) := hx
  obtain ⟨y, _, rfl⟩ := List.mem_map.1 hx'
  unfold Dsk.flushed
  split
  · rfl
  · assumption
/-- One sector that waits, behind a fall. -/
theorem fallGo_one {f : Fall} : ∀ (L : List Sec) (b : Nat) (x : Sec) (p : T × Nat), (∀ y ∈ L, y.pend = none) → L[b]? = some x → Dsk.fallGo f 0 (L.modify b fun y => ⟨y.sure, y.at_, some p⟩) = L.modify b fun _ => Dsk.fallOne f 0 ⟨x.sure, x.at_, some p⟩ p := by
  intro L
  induction L with
  | nil => intro b x p _ h; simp at h
  | cons y r ih =>
    intro b x p h hb
    cases b with
    | zero =>
      rw [List.getElem?_cons_zero] at hb
      injection hb with hb
      subst hb
      show Dsk.fallGo f 0 (⟨y.sure, y.at_, some p⟩ :: r) = Dsk.fallOne f 0 ⟨y.sure, y.at_, some p⟩ p :: r
      unfold Dsk.fallGo
      dsimp only
      rw [fallGo_id r 1 (fun z hz => h z (by simp [hz]))]
    | succ b =>
      rw [List.getElem?_cons_succ] at hb
      show Dsk.fallGo f 0 (y :: r.modify b _) = y :: r.modify b _
      unfold Dsk.fallGo
      rw [h y (by simp)]
      dsimp only
      rw [ih b x p (fun z hz => h z (by simp [hz])) hb]
/-- **BEHIND A LOSS WITHIN A SAVE: THE OLD ONE, OR THE NEW ONE.** -/
theorem either {s n : Sup} (hs : right s = true) (hn : right n = true) (hg : n.gen = s.gen + 1) (f : Fall) (k : Nat) (hk : k ≤ 1) :
    ∀ d1, d1 = saved 1 0 (Dsk.fresh 4) s → (save 1 1 { d1 with arm := some (k, f) } n).1 = 8 ∧ (save 1 1 { d1 with arm := some (k, f) } n).2.2.up = false ∧ (save 1 1 { d1 with arm := some (k, f) } n).2.2.acts ≤ 4 ∧ (save 1 1 { d1 with arm := some (k, f) } n).2.2.falls ≤ 1 ∧
      (load { (save 1 1 { d1 with arm := some (k, f) } n).2.2 with up := true } = (s, 0) ∨ load { (save 1 1 { d1 with arm := some (k, f) } n).2.2 with up := true } = (n, 0)) := by
  intro d1 hd1
  have hlen : d1.secs.length = 4 := by
    rw [hd1]
    show (List.map _ (List.modify _ _ _)).length = 4
    rw [List.length_map, List.length_modify]
    exact List.length_replicate
  have hu : d1.up = true := by rw [hd1]; rfl
  have hac : d1.acts = 2 := by rw [hd1]; rfl
  have hfa : d1.falls = 0 := by rw [hd1]; rfl
  have hpe : ∀ x ∈ d1.secs, x.pend = none := by rw [hd1]; exact saved_pend
  have hA : d1.secs[at_ s]? = some ⟨Grd.grd (Grd.stamp 1 0) (enc s), 1, none⟩ := by rw [hd1]; exact saved_at (by rw [show (Dsk.fresh 4).secs.length = 4 from List.length_replicate]; decide)
  have hne : at_ n ≠ at_ s := by unfold at_; omega
  have hB : d1.secs[at_ n]? = some ⟨Grd.noughts, 0, none⟩ := by
    have := at_lt n
    rw [hd1, saved_other hne]
    have e : (Dsk.fresh 4).secs[at_ n]? = some ⟨List.replicate 64 0, 0, none⟩ := by
      show (List.replicate 4 _)[at_ n]? = _
      rw [List.getElem?_replicate, if_pos (by omega)]
    rw [e]
    rfl
  clear hd1
  have hst : Grd.Stm (Grd.stamp 1 0) := ⟨by decide, by decide⟩
  have hst1 : Grd.Stm (Grd.stamp 1 1) := ⟨by decide, by decide⟩
  have hln := enc_len hn
  have hb := at_lt n
  have hwl : (Grd.grd (Grd.stamp 1 1) (enc n)).length = 64 := Grd.grd_len hln
  have hk' : k = 0 ∨ k = 1 := by omega
  rcases hk' with rfl | rfl
  · -- the power goes at the writing
    have hw : Dsk.write { d1 with arm := some (0, f) } (n.gen % 2) (Grd.grd (Grd.stamp 1 1) (enc n)) = (8, Dsk.fall f { d1 with arm := some (0, f) }) := by
      unfold Dsk.write
      rw [if_neg (by show ¬ d1.up = false; rw [hu]; decide), if_neg (by
        show ¬ ¬ (0 ≤ n.gen % 2 ∧ n.gen % 2 < (d1.secs.length : Int))
        rw [hlen]
        omega), if_neg (by omega)]
      rfl
    have hp : Grd.put 1 1 { d1 with arm := some (0, f) } (n.gen % 2) (enc n) = (0, 8, 1, Dsk.fall f { d1 with arm := some (0, f) }) := by
      unfold Grd.put
      rw [if_neg (by omega), if_neg (by decide), hw]
      rfl
    have hsv : save 1 1 { d1 with arm := some (0, f) } n = (8, 1, Dsk.fall f { d1 with arm := some (0, f) }) := by
      unfold save
      rw [if_neg (by rw [hn]; decide), hp]
      rfl
    rw [hsv]
    refine ⟨rfl, rfl, by show d1.acts ≤ 4; omega, by show d1.falls + 1 ≤ 1; omega, ?_⟩
    have hsec : (Dsk.fall f { d1 with arm := some (0, f) }).secs = d1.secs := fallGo_id d1.secs 0 hpe
    refine load_either (a := Grd.stamp 1 0) (x := ⟨Grd.grd (Grd.stamp 1 0) (enc s), 1, none⟩) (y := ⟨Grd.noughts, 0, none⟩) rfl hs hn hg hst ?_ ?_ rfl (fun i _ => Or.inl (lookB_noughts i))
    · show (Dsk.fall f { d1 with arm := some (0, f) }).secs[at_ s]? = _
      rw [hsec]; exact hA
    · show (Dsk.fall f { d1 with arm := some (0, f) }).secs[at_ n]? = _
      rw [hsec]; exact hB
  · -- the power goes at the flush
    obtain ⟨d2, hd2⟩ : ∃ d2 : St, Dsk.put { d1 with arm := some (0, f), acts := d1.acts + 1 } (at_ n) (Grd.grd (Grd.stamp 1 1) (enc n)) = d2 := ⟨_, rfl⟩
    have hw : Dsk.write { d1 with arm := some (1, f) } (n.gen % 2) (Grd.grd (Grd.stamp 1 1) (enc n)) = (0, d2) := by
      unfold Dsk.write
      rw [if_neg (by show ¬ d1.up = false; rw [hu]; decide), if_neg (by
        show ¬ ¬ (0 ≤ n.gen % 2 ∧ n.gen % 2 < (d1.secs.length : Int))
        rw [hlen]
        omega), if_neg (by omega)]
      rw [← hd2]
      rfl
    have hp : Grd.put 1 1 { d1 with arm := some (1, f) } (n.gen % 2) (enc n) = ((Grd.stamp 1 1 : Int), 0, 2, d2) := by
      unfold Grd.put
      rw [if_neg (by omega), if_neg (by decide), hw]
      rfl
    have hu2 : d2.up = true := by rw [← hd2]; exact hu
    have ha2 : d2.arm = some (0, f) := by rw [← hd2]; rfl
    have hf2 : d2.falls = 0 := by rw [← hd2]; exact hfa
    have hc2 : d2.acts = 3 := by rw [← hd2]; show d1.acts + 1 = 3; omega
    have hfl : Dsk.flush d2 = (8, Dsk.fall f d2) := by
      unfold Dsk.flush
      rw [if_neg (by rw [hu2]; decide)]
      unfold Dsk.act
      rw [ha2]
      rfl
    have hsv : save 1 1 { d1 with arm := some (1, f) } n = (8, 2, Dsk.fall f d2) := by
      unfold save
      rw [if_neg (by rw [hn]; decide), hp]
      dsimp only
      rw [if_neg (by simp), hfl]
    rw [hsv]
    refine ⟨rfl, rfl, by show d2.acts ≤ 4; omega, by show d2.falls + 1 ≤ 1; omega, ?_⟩
    have hsec : (Dsk.fall f d2).secs = d1.secs.modify (at_ n) fun _ => Dsk.fallOne f 0 ⟨Grd.noughts, 0, some (Grd.grd (Grd.stamp 1 1) (enc n), d1.acts + 1)⟩ (Grd.grd (Grd.stamp 1 1) (enc n), d1.acts + 1) := by
      show Dsk.fallGo f 0 d2.secs = _
      rw [← hd2]
      exact fallGo_one d1.secs (at_ n) ⟨Grd.noughts, 0, none⟩ (Grd.grd (Grd.stamp 1 1) (enc n), d1.acts + 1) hpe hB
    have hpn := Dsk.fallOne_pend f 0 ⟨Grd.noughts, 0, some (Grd.grd (Grd.stamp 1 1) (enc n), d1.acts + 1)⟩ (Grd.grd (Grd.stamp 1 1) (enc n), d1.acts + 1)
    refine load_either (a := Grd.stamp 1 0) (x := ⟨Grd.grd (Grd.stamp 1 0) (enc s), 1, none⟩) (y := Dsk.fallOne f 0 ⟨Grd.noughts, 0, some (Grd.grd (Grd.stamp 1 1) (enc n), d1.acts + 1)⟩ (Grd.grd (Grd.stamp 1 1) (enc n), d1.acts + 1)) rfl hs hn hg hst ?_ ?_ rfl (fun i hi => ?_)
    · show (Dsk.fall f d2).secs[at_ s]? = _
      rw [hsec, List.getElem?_modify, hA]
      simp [hne]
    · show (Dsk.fall f d2).secs[at_ n]? = _
      rw [hsec, List.getElem?_modify, hB]
      simp
    · have e : ∀ x : Sec, x.pend = none → x.now = x.sure := fun x hx => by unfold Dsk.Sec.now; rw [hx]
      rw [e _ hpn]
      exact look_fall hn hst1 hi f 0 _ _ rfl rfl
end Sup
end Go.Proofs.YtdgfohffmbnjiaaGreatDoor
