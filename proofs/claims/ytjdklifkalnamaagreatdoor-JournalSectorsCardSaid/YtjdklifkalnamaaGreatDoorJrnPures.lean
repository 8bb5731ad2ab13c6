/-
  JrnPures: the texts DskSpec, GrdSpec, JrnSpec, JrnLoss, JrnOpen, GrdLow, JrnMid, GrdWhole, GrdRun, JrnRun, JrnCalls, JrnNext, JrnDats in one.
-/
import Derived.Test.YtjdklifkalnamaaGreatDoorMemOne
namespace Go.Proofs.YtjdklifkalnamaaGreatDoor
set_option linter.unusedVariables false

namespace Dsk
abbrev T := List UInt8
/-- How the power goes. -/
structure Fall where
  keep : Nat
  tear : Int
/-- A sector: what lasts, by which act, and what was written since, by which act. -/
structure Sec where
  sure : T
  at_ : Nat
  pend : Option (T × Nat)
/-- What was written last. -/
def Sec.now (s : Sec) : T := match s.pend with | some p => p.1 | none => s.sure
structure St where
  secs : List Sec
  up : Bool
  arm : Option (Nat × Fall)
  acts : Nat
  falls : Nat
def bit (f : Fall) (k : Nat) : Bool := f.keep / 2 ^ (k % 64) % 2 == 1
def tears (f : Fall) (k : Nat) : Bool := decide (0 ≤ f.tear) && decide (f.tear / 64 = (k : Int))
def cut (f : Fall) : Nat := (f.tear % 64).toNat
/-- What becomes of the sector number k of those that wait. -/
def fallOne (f : Fall) (k : Nat) (s : Sec) (p : T × Nat) : Sec :=
  if tears f k then ⟨p.1.take (cut f) ++ (if bit f k then p.1 else s.sure).drop (cut f), p.2, none⟩
  else if bit f k then ⟨p.1, p.2, none⟩ else ⟨s.sure, s.at_, none⟩
def fallGo (f : Fall) : Nat → List Sec → List Sec
  | _, [] => []
  | k, s :: r => match s.pend with
    | none => s :: fallGo f k r
    | some p => fallOne f k s p :: fallGo f (k + 1) r
def fall (f : Fall) (d : St) : St := { secs := fallGo f 0 d.secs, up := false, arm := none, acts := d.acts, falls := d.falls + 1 }
def flushed (s : Sec) : Sec := match s.pend with | some p => ⟨p.1, p.2, none⟩ | none => s
def act (d : St) : Bool × St := match d.arm with
  | some (0, f) => (false, fall f d)
  | some (n + 1, f) => (true, { d with arm := some (n, f), acts := d.acts + 1 })
  | none => (true, { d with acts := d.acts + 1 })
def put (d : St) (i : Nat) (s : T) : St := { d with secs := d.secs.modify i fun x => ⟨x.sure, x.at_, some (s, d.acts)⟩ }
def write (d : St) (i : Int) (s : T) : Int × St :=
  if d.up = false then (8, d) else if ¬ (0 ≤ i ∧ i < (d.secs.length : Int)) then (5, d) else if s.length ≠ 64 then (1, d)
  else if (act d).1 = false then (8, (act d).2) else (0, put (act d).2 i.toNat s)
def flush (d : St) : Int × St :=
  if d.up = false then (8, d) else if (act d).1 = false then (8, (act d).2) else (0, { (act d).2 with secs := (act d).2.secs.map flushed })
def crash (d : St) (f : Fall) : Int × St := if d.up = false then (8, d) else (0, fall f d)
def armed (d : St) (n : Int) (f : Fall) : Int × St := if d.up = false then (8, d) else if n < 0 then (1, d) else (0, { d with arm := some (n.toNat, f) })
def calm (d : St) : St := { d with arm := none }
def start (d : St) : Int × St := if d.up = true then (25, d) else (0, { d with up := true })
def read (d : St) (i : Int) : T × Int :=
  if d.up = false then ([], 8) else if ¬ (0 ≤ i ∧ i < (d.secs.length : Int)) then ([], 5) else (((d.secs[i.toNat]?).map Sec.now).getD [], 0)
def fresh (n : Nat) : St := { secs := List.replicate n ⟨List.replicate 64 0, 0, none⟩, up := true, arm := none, acts := 0, falls := 0 }
def Full (s : Sec) : Prop := s.sure.length = 64 ∧ ∀ p, s.pend = some p → p.1.length = 64
/-- All sectors have 64 bytes. -/
def Good (d : St) : Prop := ∀ s ∈ d.secs, Full s

theorem fallOne_pend (f : Fall) (k : Nat) (s : Sec) (p : T × Nat) : (fallOne f k s p).pend = none := by
  unfold fallOne
  split
  · rfl
  · split <;> rfl
theorem fallGo_len (f : Fall) : ∀ (k : Nat) (L : List Sec), (fallGo f k L).length = L.length := by
  intro k L
  induction L generalizing k with
  | nil => rfl
  | cons s r ih =>
    unfold fallGo
    split
    · rw [List.length_cons, List.length_cons, ih]
    · rw [List.length_cons, List.length_cons, ih]
theorem fallGo_none {f : Fall} {k : Nat} {L : List Sec} : ∀ s ∈ fallGo f k L, s.pend = none := by
  induction L generalizing k with
  | nil => intro s hs; cases hs
  | cons x r ih =>
    intro s hs
    unfold fallGo at hs
    split at hs
    · rename_i hx
      rcases List.mem_cons.1 hs with rfl | hs
      · exact hx
      · exact ih s hs
    · rcases List.mem_cons.1 hs with rfl | hs
      · exact fallOne_pend ..
      · exact ih s hs
theorem cut_lt (f : Fall) : cut f < 64 := by
  unfold cut
  have := Int.emod_lt_of_pos f.tear (show (0 : Int) < 64 by decide)
  have := Int.emod_nonneg f.tear (show (64 : Int) ≠ 0 by decide)
  omega
theorem fallOne_full (f : Fall) (k : Nat) (s : Sec) (p : T × Nat) (hs : s.sure.length = 64) (hp : p.1.length = 64) : Full (fallOne f k s p) := by
  have hc := cut_lt f
  refine ⟨?_, fun q hq => by rw [fallOne_pend] at hq; cases hq⟩
  unfold fallOne
  split
  · show (p.1.take (cut f) ++ (if bit f k = true then p.1 else s.sure).drop (cut f)).length = 64
    rw [List.length_append, List.length_take, List.length_drop]
    split <;> omega
  · split
    · exact hp
    · exact hs
theorem fallGo_full (f : Fall) {k : Nat} {L : List Sec} (h : ∀ s ∈ L, Full s) : ∀ s ∈ fallGo f k L, Full s := by
  induction L generalizing k with
  | nil => intro s hs; cases hs
  | cons x r ih =>
    intro s hs
    have hx := h x (by simp)
    have hr : ∀ s ∈ r, Full s := fun s hs => h s (by simp [hs])
    unfold fallGo at hs
    split at hs
    · rcases List.mem_cons.1 hs with rfl | hs
      · exact hx
      · exact ih hr s hs
    · rename_i p hp
      rcases List.mem_cons.1 hs with rfl | hs
      · exact fallOne_full f _ _ _ hx.1 (hx.2 p hp)
      · exact ih hr s hs
theorem fall_good {d : St} (f : Fall) (h : Good d) : Good (fall f d) := fallGo_full f h
theorem flushed_full {s : Sec} (h : Full s) : Full (flushed s) := by
  unfold flushed
  split
  · rename_i p hp
    exact ⟨h.2 p hp, fun q hq => by cases hq⟩
  · exact h
theorem act_good {d : St} (h : Good d) : Good (act d).2 := by
  unfold act
  split
  · exact fall_good _ h
  · exact h
  · exact h
theorem act_secs {d : St} : (act d).2.secs.length = d.secs.length := by
  unfold act
  split
  · exact fallGo_len ..
  · rfl
  · rfl
theorem fresh_good (n : Nat) : Good (fresh n) := fun s hs => by
  rw [(List.mem_replicate.1 hs).2]
  exact ⟨List.length_replicate, fun p hp => by cases hp⟩

/-- Is what lasts of a sector neither what lasted nor what was written? -/
def torn (s s' : Sec) : Bool := decide (s'.sure ≠ s.sure) && decide (s'.sure ≠ s.now)
def tornN (L L' : List Sec) : Nat := ((L.zip L').filter fun p => torn p.1 p.2).length
theorem fallOne_torn (f : Fall) (k : Nat) (s : Sec) (p : T × Nat) (hp : s.pend = some p) (h : torn s (fallOne f k s p) = true) : tears f k = true := by
  by_cases ht : tears f k = true
  · exact ht
  · unfold torn fallOne at h
    rw [if_neg ht] at h
    have hn : s.now = p.1 := by unfold Sec.now; rw [hp]
    split at h
    · simp [hn] at h
    · simp at h
theorem tornN_le (f : Fall) : ∀ (L : List Sec) (k : Nat), tornN L (fallGo f k L) ≤ (if 0 ≤ f.tear ∧ (k : Int) ≤ f.tear / 64 then 1 else 0) := by
  intro L
  induction L with
  | nil => intro k; exact Nat.zero_le _
  | cons s r ih =>
    intro k
    unfold fallGo
    cases hp : s.pend with
    | none =>
      show tornN (s :: r) (s :: fallGo f k r) ≤ _
      have hn : torn s s = false := by unfold torn; simp
      have he : tornN (s :: r) (s :: fallGo f k r) = tornN r (fallGo f k r) := by
        unfold tornN
        rw [List.zip_cons_cons, List.filter_cons, if_neg (by rw [hn]; decide)]
      rw [he]
      exact ih k
    | some p =>
      show tornN (s :: r) (fallOne f k s p :: fallGo f (k + 1) r) ≤ _
      have ih' := ih (k + 1)
      have he : tornN (s :: r) (fallOne f k s p :: fallGo f (k + 1) r) = (if torn s (fallOne f k s p) = true then 1 else 0) + tornN r (fallGo f (k + 1) r) := by
        unfold tornN
        rw [List.zip_cons_cons, List.filter_cons]
        split
        · rw [List.length_cons]; omega
        · omega
      rw [he]
      by_cases ht : torn s (fallOne f k s p) = true
      · have htk := fallOne_torn f k s p hp ht
        unfold tears at htk
        rw [Bool.and_eq_true, decide_eq_true_eq, decide_eq_true_eq] at htk
        rw [if_pos ht]
        rw [if_neg (by omega)] at ih'
        rw [if_pos (by omega)]
        omega
      · rw [if_neg ht]
        split at ih'
        · rename_i hc
          rw [if_pos (by omega)]
          omega
        · omega
end Dsk
end Go.Proofs.YtjdklifkalnamaaGreatDoor

namespace Go.Proofs.YtjdklifkalnamaaGreatDoor
set_option linter.unusedVariables false

namespace Grd
abbrev T := List UInt8
/-- A number's last eight bytes, most significant first. -/
def eight (n : Nat) : T := [UInt8.ofNat (n / 72057594037927936), UInt8.ofNat (n / 281474976710656), UInt8.ofNat (n / 1099511627776), UInt8.ofNat (n / 4294967296), UInt8.ofNat (n / 16777216), UInt8.ofNat (n / 65536), UInt8.ofNat (n / 256), UInt8.ofNat n]
def num8 (l : T) : Nat := l.foldl (fun a c => a * 256 + c.toNat) 0
def zeros (n : Nat) : T := List.replicate n 0
def noughts : T := zeros 64
/-- The bytes of a sector into which s is put with the stamp a. -/
def grd (a : Nat) (s : T) : T := eight a ++ (UInt8.ofNat s.length :: (s ++ zeros (47 - s.length))) ++ eight a
/-- Is it a guarded sector? -/
def isG (b : T) : Bool := decide (b.length = 64) && decide (b.take 8 = b.drop 56) && decide ((b.getD 8 0).toNat ≤ 47) && decide ((b.drop (9 + (b.getD 8 0).toNat)).take (47 - (b.getD 8 0).toNat) = zeros (47 - (b.getD 8 0).toNat)) && decide (4294967296 ≤ num8 (b.take 8)) && decide (num8 (b.take 8) < 9223372036854775808)
/-- What is read of a sector's bytes: data, stamp, code. -/
def rd (b : T) : T × Nat × Int := if b = noughts then ([], 0, 7) else if isG b = true then ((b.drop 9).take (b.getD 8 0).toNat, num8 (b.take 8), 0) else ([], 0, 17)
/-- A stamp that may be. -/
def Stm (a : Nat) : Prop := 4294967296 ≤ a ∧ a < 9223372036854775808

theorem eight_len (n : Nat) : (eight n).length = 8 := rfl
theorem zeros_len (n : Nat) : (zeros n).length = n := List.length_replicate
theorem grd_len {a : Nat} {s : T} (h : s.length ≤ 47) : (grd a s).length = 64 := by
  unfold grd
  simp [eight_len, zeros_len]
  omega
theorem u8_toNat (n : Nat) : (UInt8.ofNat n).toNat = n % 256 := by rw [UInt8.toNat_ofNat']
theorem num8_eight (n : Nat) (h : n < 18446744073709551616) : num8 (eight n) = n := by
  unfold num8 eight
  simp only [List.foldl_cons, List.foldl_nil, u8_toNat]
  omega
theorem eight_inj {a b : Nat} (ha : a < 18446744073709551616) (hb : b < 18446744073709551616) (h : eight a = eight b) : a = b := by
  rw [← num8_eight a ha, ← num8_eight b hb, h]
theorem num8_zeros : num8 (zeros 8) = 0 := by decide
theorem grd_take8 (a : Nat) (s : T) : (grd a s).take 8 = eight a := by
  unfold grd
  rw [List.append_assoc, List.take_append_of_le_length (by rw [eight_len]; decide), List.take_of_length_le (by rw [eight_len]; decide)]
theorem grd_drop56 {a : Nat} {s : T} (h : s.length ≤ 47) : (grd a s).drop 56 = eight a := by
  unfold grd
  rw [List.drop_append_of_le_length (by simp [eight_len, zeros_len]; omega)]
  rw [List.drop_eq_nil_of_le (by simp [eight_len, zeros_len]; omega), List.nil_append]
theorem noughts_take8 : noughts.take 8 = zeros 8 := by decide
theorem noughts_drop56 : noughts.drop 56 = zeros 8 := by decide
theorem noughts_len : noughts.length = 64 := zeros_len 64
theorem eight_ne {a : Nat} (h : Stm a) : eight a ≠ zeros 8 := fun e => by
  have h1 := num8_eight a (by have := h.2; omega)
  rw [e, num8_zeros] at h1
  have := h.1
  omega
/-- What a sector may hold: noughts, or something that was put there. -/
def Cont (P : T) : Prop := P = noughts ∨ ∃ a s, P = grd a s ∧ s.length ≤ 47 ∧ Stm a
theorem Cont.len {P : T} (h : Cont P) : P.length = 64 := by
  rcases h with rfl | ⟨a, s, rfl, hs, _⟩
  · exact noughts_len
  · exact grd_len hs
/-- Two contents have unlike stamps. -/
def Apart (P Q : T) : Prop := ∀ a s b t, P = grd a s → Q = grd b t → Stm a → Stm b → a ≠ b
theorem isG_ends {b : T} (h : isG b = true) : b.length = 64 ∧ b.take 8 = b.drop 56 ∧ Stm (num8 (b.take 8)) := by
  unfold isG at h
  simp only [Bool.and_eq_true, decide_eq_true_eq] at h
  exact ⟨h.1.1.1.1.1, h.1.1.1.1.2, h.1.2, h.2⟩
theorem split8 {b c : T} (h1 : b.take 8 = c.take 8) (h2 : b.drop 8 = c.drop 8) : b = c := by
  rw [← List.take_append_drop 8 b, ← List.take_append_drop 8 c, h1, h2]
theorem split56 {b c : T} (h1 : b.take 56 = c.take 56) (h2 : b.drop 56 = c.drop 56) : b = c := by
  rw [← List.take_append_drop 56 b, ← List.take_append_drop 56 c, h1, h2]
theorem mix_drop {P Q : T} {c m : Nat} (hP : P.length = 64) (hc : c ≤ m) (hm : m ≤ 64) : (P.take c ++ Q.drop c).drop m = Q.drop m := by
  rw [List.drop_append, List.length_take]
  rw [List.drop_eq_nil_of_le (by rw [List.length_take]; omega), List.nil_append, List.drop_drop]
  congr 1
  omega
theorem mix_take {P Q : T} {c m : Nat} (hP : P.length = 64) (hc : m ≤ c) (h64 : c ≤ 64) : (P.take c ++ Q.drop c).take m = P.take m := by
  rw [List.take_append_of_le_length (by rw [List.length_take]; omega), List.take_take, Nat.min_eq_left hc]
/-- The stamps at both ends of a content. -/
theorem Cont.ends {P : T} (h : Cont P) : (P = noughts ∧ P.take 8 = zeros 8 ∧ P.drop 56 = zeros 8) ∨ (∃ a s, P = grd a s ∧ Stm a ∧ P.take 8 = eight a ∧ P.drop 56 = eight a) := by
  rcases h with rfl | ⟨a, s, rfl, hs, ha⟩
  · exact Or.inl ⟨rfl, noughts_take8, noughts_drop56⟩
  · exact Or.inr ⟨a, s, rfl, ha, grd_take8 a s, grd_drop56 hs⟩
theorem rd_torn {b : T} (h1 : b ≠ noughts) (h2 : isG b = false) : (rd b).2.2 = 17 := by
  unfold rd
  rw [if_neg h1, if_neg (by rw [h2]; decide)]
/-- **A TORN SECTOR IS ONE OF BOTH, WHOLE, OR IT IS TOLD.** -/
theorem mix {P Q : T} (hP : Cont P) (hQ : Cont Q) (hA : Apart P Q) (c : Nat) (hc : c < 64) : P.take c ++ Q.drop c = P ∨ P.take c ++ Q.drop c = Q ∨ (rd (P.take c ++ Q.drop c)).2.2 = 17 := by
  have lP := hP.len
  have lQ := hQ.len
  by_cases h8 : c ≤ 8
  · -- the end is Q's
    have e1 : (P.take c ++ Q.drop c).drop 56 = Q.drop 56 := mix_drop lP (by omega) (by decide)
    have e2 : (P.take c ++ Q.drop c).drop 8 = Q.drop 8 := mix_drop lP h8 (by decide)
    generalize hM : P.take c ++ Q.drop c = M at e1 e2
    by_cases hg : isG M = true
    · obtain ⟨_, g1, g2⟩ := isG_ends hg
      refine Or.inr (Or.inl (split8 ?_ e2))
      rw [g1, e1]
      rcases hQ.ends with ⟨_, q1, q2⟩ | ⟨b, t, _, _, q1, q2⟩
      · exfalso
        rw [g1, e1, q2, num8_zeros] at g2
        have := g2.1
        omega
      · rw [q1, q2]
    · by_cases hn : M = noughts
      · rcases hQ.ends with ⟨q0, _, _⟩ | ⟨b, t, _, hb, q1, q2⟩
        · exact Or.inr (Or.inl (hn.trans q0.symm))
        · exfalso
          rw [q2, hn, noughts_drop56] at e1
          exact eight_ne hb e1.symm
      · exact Or.inr (Or.inr (rd_torn hn (by simpa using hg)))
  · by_cases h56 : c ≤ 56
    · have e1 : (P.take c ++ Q.drop c).drop 56 = Q.drop 56 := mix_drop lP h56 (by decide)
      have e2 : (P.take c ++ Q.drop c).take 8 = P.take 8 := mix_take lP (by omega) (by omega)
      generalize hM : P.take c ++ Q.drop c = M at e1 e2
      by_cases hg : isG M = true
      · exfalso
        obtain ⟨_, g1, g2⟩ := isG_ends hg
        rw [e2, e1] at g1
        rw [e2] at g2
        rcases hP.ends with ⟨_, p1, p2⟩ | ⟨a, s, pe, ha, p1, p2⟩
        · rw [p1, num8_zeros] at g2
          have := g2.1
          omega
        · rcases hQ.ends with ⟨_, q1, q2⟩ | ⟨b, t, qe, hb, q1, q2⟩
          · rw [p1, q2] at g1
            exact eight_ne ha g1
          · rw [p1, q2] at g1
            exact hA a s b t pe qe ha hb (eight_inj (by have := ha.2; omega) (by have := hb.2; omega) g1)
      · by_cases hn : M = noughts
        · rcases hP.ends with ⟨p0, _, _⟩ | ⟨a, s, _, ha, p1, p2⟩
          · exact Or.inl (hn.trans p0.symm)
          · exfalso
            rw [p1, hn, noughts_take8] at e2
            exact eight_ne ha e2.symm
        · exact Or.inr (Or.inr (rd_torn hn (by simpa using hg)))
    · -- the beginning is P's
      have e1 : (P.take c ++ Q.drop c).take 56 = P.take 56 := mix_take lP (by omega) (by omega)
      have e2 : (P.take c ++ Q.drop c).take 8 = P.take 8 := mix_take lP (by omega) (by omega)
      generalize hM : P.take c ++ Q.drop c = M at e1 e2
      by_cases hg : isG M = true
      · obtain ⟨_, g1, g2⟩ := isG_ends hg
        refine Or.inl (split56 e1 ?_)
        rw [← g1, e2]
        rcases hP.ends with ⟨_, p1, p2⟩ | ⟨a, s, _, ha, p1, p2⟩
        · rw [p1, p2]
        · rw [p1, p2]
      · by_cases hn : M = noughts
        · rcases hP.ends with ⟨p0, _, _⟩ | ⟨a, s, _, ha, p1, p2⟩
          · exact Or.inl (hn.trans p0.symm)
          · exfalso
            rw [p1, hn, noughts_take8] at e2
            exact eight_ne ha e2.symm
        · exact Or.inr (Or.inr (rd_torn hn (by simpa using hg)))
theorem rd_noughts : rd noughts = ([], 0, 7) := by unfold rd; rw [if_pos rfl]
theorem grd_at8 (a : Nat) (s : T) (h : s.length ≤ 47) : ((grd a s).getD 8 0).toNat = s.length := by
  have e : (grd a s)[8]? = some (UInt8.ofNat s.length) := by
    unfold grd
    rw [List.append_assoc, List.getElem?_append_right (by rw [eight_len]; decide), eight_len]
    rfl
  rw [List.getD_eq_getElem?_getD, e, Option.getD_some, u8_toNat]
  omega
theorem grd_drop9 (a : Nat) (s : T) : (grd a s).drop 9 = s ++ zeros (47 - s.length) ++ eight a := by
  unfold grd
  rw [List.append_assoc, List.drop_append, List.drop_eq_nil_of_le (by rw [eight_len]; decide), List.nil_append, eight_len]
  rfl
theorem grd_isG {a : Nat} {s : T} (hs : s.length ≤ 47) (ha : Stm a) : isG (grd a s) = true := by
  unfold isG
  have h9 : ((grd a s).drop (9 + s.length)).take (47 - s.length) = zeros (47 - s.length) := by
    rw [← List.drop_drop, grd_drop9, List.append_assoc, List.drop_append_of_le_length (Nat.le_refl _), List.drop_length, List.nil_append]
    rw [List.take_append_of_le_length (by rw [zeros_len]; exact Nat.le_refl _), List.take_of_length_le (by rw [zeros_len]; exact Nat.le_refl _)]
  rw [grd_at8 a s hs, grd_take8, grd_drop56 hs, num8_eight a (by have := ha.2; omega), h9, grd_len hs]
  simp [ha.1, ha.2, hs]
theorem grd_ne {a : Nat} {s : T} (ha : Stm a) : grd a s ≠ noughts := fun e => by
  have h1 := grd_take8 a s
  rw [e, noughts_take8] at h1
  exact eight_ne ha h1.symm
theorem rd_grd {a : Nat} {s : T} (hs : s.length ≤ 47) (ha : Stm a) : rd (grd a s) = (s, a, 0) := by
  unfold rd
  rw [if_neg (grd_ne ha), if_pos (grd_isG hs ha), grd_at8 a s hs, grd_take8, num8_eight a (by have := ha.2; omega), grd_drop9, List.append_assoc, List.take_append_of_le_length (Nat.le_refl _), List.take_length]
end Grd
end Go.Proofs.YtjdklifkalnamaaGreatDoor

namespace Go.Proofs.YtjdklifkalnamaaGreatDoor
set_option linter.unusedVariables false

namespace Jrn
open Grd (eight num8 num8_eight eight_len)
abbrev T := List UInt8
/-- What is read of a sector: data, stamp, code. -/
abbrev X := T × Nat × Int
def need (n : Nat) : Nat := 1 + (n - 36 + 37) / 38
def piece1 (link : Nat) (s : T) : T := 1 :: (eight link ++ (UInt8.ofNat (s.length / 256) :: UInt8.ofNat s.length :: s.take 36))
def piece2 (link : Nat) (t : T) : T := 2 :: (eight link ++ t.take 38)
/-- The link that data tell. -/
def lnk (t : T) : Nat := num8 ((t.drop 1).take 8)
/-- The rest of a record: n sectors, rem bytes. -/
def rest (r : Nat → X) : Nat → Nat → Nat → Nat → Option (T × Nat)
  | 0, _, link, _ => some ([], link)
  | n + 1, at_, link, rem =>
    if (r at_).2.2 = 0 ∧ (r at_).1.length = 9 + min rem 38 ∧ (r at_).1.take 9 = 2 :: eight link then
      (rest r n (at_ + 1) (r at_).2.1 (rem - 38)).map fun q => ((r at_).1.drop 9 ++ q.1, q.2)
    else none
def lenOf (t : T) : Nat := (t.getD 9 0).toNat * 256 + (t.getD 10 0).toNat
/-- The record that begins at a place, its sectors, the next link. -/
def one (r : Nat → X) (at_ left link : Nat) : Option (T × Nat × Nat) :=
  if 1 ≤ left ∧ (r at_).2.2 = 0 ∧ 11 ≤ (r at_).1.length ∧ (r at_).1.take 9 = 1 :: eight link ∧ lenOf (r at_).1 ≤ 6000 ∧ need (lenOf (r at_).1) ≤ left ∧ (r at_).1.length = 11 + min (lenOf (r at_).1) 36 then
    (rest r (need (lenOf (r at_).1) - 1) (at_ + 1) (r at_).2.1 (lenOf (r at_).1 - 36)).map fun q => ((r at_).1.drop 11 ++ q.1, need (lenOf (r at_).1), q.2)
  else none
/-- All records that hang together from a place on; how many sectors they have; the last link. -/
def parse (r : Nat → X) : Nat → Nat → Nat → Nat → List T × Nat × Nat
  | 0, _, _, link => ([], 0, link)
  | fuel + 1, at_, left, link => match one r at_ left link with
    | none => ([], 0, link)
    | some (s, n, l) => ((s :: (parse r fuel (at_ + n) (left - n) l).1), n + (parse r fuel (at_ + n) (left - n) l).2.1, (parse r fuel (at_ + n) (left - n) l).2.2)

theorem need_pos (n : Nat) : 1 ≤ need n := by unfold need; omega
theorem lnk_of9 {t : T} {c : UInt8} {link : Nat} (h : t.take 9 = c :: eight link) (hl : link < 18446744073709551616) : lnk t = link := by
  unfold lnk
  have e : (t.drop 1).take 8 = eight link := by
    have := congrArg (fun l => List.drop 1 l) h
    simp only [List.drop_take, List.drop_succ_cons, List.drop_zero] at this
    exact this
  rw [e, num8_eight _ hl]

/-! a record's sectors -/
/-- The sectors behind the first: data and stamps. -/
def pays2 : Nat → T → List Nat → List (T × Nat)
  | _, _, [] => []
  | link, t, st :: ts => (piece2 link t, st) :: pays2 st (t.drop 38) ts
def pays (link : Nat) (s : T) : List Nat → List (T × Nat)
  | [] => []
  | st :: ts => (piece1 link s, st) :: pays2 st (s.drop 36) ts
def lastOr (link : Nat) : List Nat → Nat
  | [] => link
  | st :: ts => lastOr st ts
theorem pays2_len : ∀ (ts : List Nat) (link : Nat) (t : T), (pays2 link t ts).length = ts.length := by
  intro ts
  induction ts with
  | nil => intro link t; rfl
  | cons st ts ih => intro link t; unfold pays2; rw [List.length_cons, List.length_cons, ih]
theorem pays_len (ts : List Nat) (link : Nat) (s : T) : (pays link s ts).length = ts.length := by
  cases ts with
  | nil => rfl
  | cons st ts => unfold pays; rw [List.length_cons, List.length_cons, pays2_len]
theorem piece2_take (link : Nat) (t : T) : (piece2 link t).take 9 = 2 :: eight link := by
  unfold piece2
  rw [List.take_succ_cons, List.take_append_of_le_length (by rw [eight_len]; decide), List.take_of_length_le (by rw [eight_len]; decide)]
theorem piece1_take (link : Nat) (s : T) : (piece1 link s).take 9 = 1 :: eight link := by
  unfold piece1
  rw [List.take_succ_cons, List.take_append_of_le_length (by rw [eight_len]; decide), List.take_of_length_le (by rw [eight_len]; decide)]
theorem piece2_len (link : Nat) (t : T) : (piece2 link t).length = 9 + min t.length 38 := by
  unfold piece2
  rw [List.length_cons, List.length_append, eight_len, List.length_take]
  omega
theorem piece1_len (link : Nat) (s : T) : (piece1 link s).length = 11 + min s.length 36 := by
  unfold piece1
  rw [List.length_cons, List.length_append, eight_len, List.length_cons, List.length_cons, List.length_take]
  omega
theorem piece2_drop (link : Nat) (t : T) : (piece2 link t).drop 9 = t.take 38 := by
  unfold piece2
  rw [List.drop_succ_cons, List.drop_append, List.drop_eq_nil_of_le (by rw [eight_len]; decide), List.nil_append, eight_len]
  rfl
theorem piece1_drop (link : Nat) (s : T) : (piece1 link s).drop 11 = s.take 36 := by
  unfold piece1
  rw [List.drop_succ_cons, List.drop_append, List.drop_eq_nil_of_le (by rw [eight_len]; decide), List.nil_append, eight_len]
  rfl
theorem piece1_lenOf (link : Nat) (s : T) (h : s.length ≤ 6000) : lenOf (piece1 link s) = s.length := by
  have e9 : (piece1 link s).getD 9 0 = UInt8.ofNat (s.length / 256) := by
    unfold piece1
    rw [List.getD_eq_getElem?_getD, List.getElem?_cons_succ, List.getElem?_append_right (by rw [eight_len]; decide), eight_len]
    rfl
  have e10 : (piece1 link s).getD 10 0 = UInt8.ofNat s.length := by
    unfold piece1
    rw [List.getD_eq_getElem?_getD, List.getElem?_cons_succ, List.getElem?_append_right (by rw [eight_len]; decide), eight_len]
    rfl
  unfold lenOf
  rw [e9, e10, UInt8.toNat_ofNat', UInt8.toNat_ofNat']
  omega
/-- The sectors at a place are just these. -/
def Agree (r : Nat → X) (at_ : Nat) (P : List (T × Nat)) : Prop := ∀ k w, P[k]? = some w → r (at_ + k) = (w.1, w.2, 0)
theorem Agree.head {r : Nat → X} {at_ : Nat} {w : T × Nat} {P : List (T × Nat)} (h : Agree r at_ (w :: P)) : r at_ = (w.1, w.2, 0) := h 0 w rfl
theorem Agree.tail {r : Nat → X} {at_ : Nat} {w : T × Nat} {P : List (T × Nat)} (h : Agree r at_ (w :: P)) : Agree r (at_ + 1) P := fun k v hv => by
  have := h (k + 1) v (by rw [List.getElem?_cons_succ]; exact hv)
  rw [show at_ + 1 + k = at_ + (k + 1) by omega]
  exact this
theorem rest_agree (r : Nat → X) : ∀ (ts : List Nat) (at_ link : Nat) (t : T), Agree r at_ (pays2 link t ts) → t.length ≤ ts.length * 38 → rest r ts.length at_ link t.length = some (t, lastOr link ts) := by
  intro ts
  induction ts with
  | nil =>
    intro at_ link t _ hl
    have : t = [] := List.eq_nil_of_length_eq_zero (by rw [List.length_nil] at hl; omega)
    subst this
    rfl
  | cons st ts ih =>
    intro at_ link t ha hl
    unfold pays2 at ha
    have h0 := ha.head
    have ih' := ih (at_ + 1) st (t.drop 38) ha.tail (by rw [List.length_drop]; rw [List.length_cons] at hl; omega)
    rw [List.length_drop] at ih'
    show rest r (ts.length + 1) at_ link t.length = _
    unfold rest
    rw [h0]
    dsimp only
    rw [if_pos ⟨rfl, piece2_len link t, piece2_take link t⟩, ih']
    show some ((piece2 link t).drop 9 ++ t.drop 38, lastOr st ts) = _
    rw [piece2_drop, List.take_append_drop]
    rfl
theorem one_agree (r : Nat → X) (ts : List Nat) (at_ left link : Nat) (s : T) (ha : Agree r at_ (pays link s ts)) (hs : s.length ≤ 6000) (hn : ts.length = need s.length) (hl : need s.length ≤ left) : one r at_ left link = some (s, need s.length, lastOr link ts) := by
  cases ts with
  | nil => have := need_pos s.length; rw [List.length_nil] at hn; omega
  | cons st ts =>
    unfold pays at ha
    have h0 := ha.head
    have hnp := need_pos s.length
    rw [List.length_cons] at hn
    have hr := rest_agree r ts (at_ + 1) st (s.drop 36) ha.tail (by
      rw [List.length_drop]
      unfold need at hn
      omega)
    rw [List.length_drop] at hr
    unfold one
    rw [h0]
    dsimp only
    rw [piece1_lenOf link s hs, if_pos ⟨by omega, rfl, by rw [piece1_len]; omega, piece1_take link s, hs, hl, piece1_len link s⟩]
    rw [show need s.length - 1 = ts.length by omega, hr]
    show some ((piece1 link s).drop 11 ++ s.drop 36, need s.length, lastOr st ts) = _
    rw [piece1_drop, List.take_append_drop]
    rfl

/-! new sectors among old ones -/
/-- Of an older start: its stamp, and its link, are below B. -/
def OldX (B : Nat) (x : X) : Prop := x.2.2 = 0 → x.2.1 < B ∧ lnk x.1 < B
/-- From a place on each sector is a new one, W's, or is none that is guarded, or is as it was, old. -/
def Cnd (B : Nat) (r r0 : Nat → X) (at_ : Nat) (W : List (T × Nat)) : Prop :=
  ∀ k, (∃ w, W[k]? = some w ∧ r (at_ + k) = (w.1, w.2, 0)) ∨ (r (at_ + k)).2.2 ≠ 0 ∨ (r (at_ + k) = r0 (at_ + k) ∧ OldX B (r0 (at_ + k)))
/-- Each new sector hangs to the one ahead; stamps are new. -/
def Linked (B : Nat) : Nat → List (T × Nat) → Prop
  | _, [] => True
  | l, w :: W => lnk w.1 = l ∧ B ≤ w.2 ∧ w.2 < 18446744073709551616 ∧ Linked B w.2 W
theorem Cnd.tail {B : Nat} {r r0 : Nat → X} {at_ : Nat} {w : T × Nat} {W : List (T × Nat)} (h : Cnd B r r0 at_ (w :: W)) : Cnd B r r0 (at_ + 1) W := fun k => by
  have := h (k + 1)
  rw [List.getElem?_cons_succ, show at_ + (k + 1) = at_ + 1 + k by omega] at this
  exact this
theorem Cnd.nil_tail {B : Nat} {r r0 : Nat → X} {at_ : Nat} (h : Cnd B r r0 at_ []) : Cnd B r r0 (at_ + 1) [] := fun k => by
  have := h (k + 1)
  rw [show at_ + (k + 1) = at_ + 1 + k by omega] at this
  rcases this with ⟨w, hw, _⟩ | this
  · simp at hw
  · exact Or.inr this
/-- What hangs to a new link is new. -/
theorem rest_new {B : Nat} {r r0 : Nat → X} : ∀ (n at_ link rem : Nat) (W : List (T × Nat)) (out : T × Nat), Linked B link W → Cnd B r r0 at_ W → B ≤ link → link < 18446744073709551616 → rest r n at_ link rem = some out → ∀ k, k < n → ∃ w, W[k]? = some w ∧ r (at_ + k) = (w.1, w.2, 0) := by
  intro n
  induction n with
  | zero => intro at_ link rem W out _ _ _ _ _ k hk; omega
  | succ n ih =>
    intro at_ link rem W out hL hC hB hB2 hr k hk
    unfold rest at hr
    split at hr
    · rename_i hc
      obtain ⟨h1, h2, h3⟩ := hc
      have hlk := lnk_of9 h3 hB2
      have h0 := hC 0
      rw [Nat.add_zero] at h0
      rcases h0 with ⟨w, hw, he⟩ | h0 | ⟨he, ho⟩
      · cases W with
        | nil => simp at hw
        | cons w' W =>
          rw [List.getElem?_cons_zero] at hw
          injection hw with hw
          subst hw
          obtain ⟨l1, l2, l3, l4⟩ := hL
          cases k with
          | zero => exact ⟨w', rfl, by rw [Nat.add_zero]; exact he⟩
          | succ k =>
            cases hq : rest r n (at_ + 1) (r at_).2.1 (rem - 38) with
            | none => rw [hq] at hr; cases hr
            | some q =>
              have hst : (r at_).2.1 = w'.2 := by rw [he]
              rw [hst] at hq
              obtain ⟨v, hv, hv2⟩ := ih (at_ + 1) w'.2 (rem - 38) W q l4 hC.tail l2 l3 hq k (by omega)
              exact ⟨v, by rw [List.getElem?_cons_succ]; exact hv, by rw [show at_ + (k + 1) = at_ + 1 + k by omega]; exact hv2⟩
      · exact absurd h1 h0
      · rw [← he] at ho
        have := (ho h1).2
        omega
    · cases hr
/-- What hangs to an old link is old. -/
theorem rest_old {B : Nat} {r r0 : Nat → X} : ∀ (n at_ link rem : Nat) (W : List (T × Nat)) (l : Nat) (out : T × Nat), Linked B l W → B ≤ l → Cnd B r r0 at_ W → link < B → B ≤ 18446744073709551616 → rest r n at_ link rem = some out → rest r0 n at_ link rem = some out := by
  intro n
  induction n with
  | zero => intro at_ link rem W l out _ _ _ _ _ hr; exact hr
  | succ n ih =>
    intro at_ link rem W l out hL hl hC hB hB2 hr
    unfold rest at hr
    split at hr
    · rename_i hc
      obtain ⟨h1, h2, h3⟩ := hc
      have hlk := lnk_of9 h3 (by omega)
      have h0 := hC 0
      rw [Nat.add_zero] at h0
      rcases h0 with ⟨w, hw, he⟩ | h0 | ⟨he, ho⟩
      · cases W with
        | nil => simp at hw
        | cons w' W =>
          rw [List.getElem?_cons_zero] at hw
          injection hw with hw
          subst hw
          exfalso
          have e := hL.1
          rw [he] at hlk
          dsimp only at hlk
          omega
      · exact absurd h1 h0
      · rw [← he] at ho
        have hst := (ho h1).1
        unfold rest
        rw [← he]
        rw [if_pos ⟨h1, h2, h3⟩]
        cases hq : rest r n (at_ + 1) (r at_).2.1 (rem - 38) with
        | none => rw [hq] at hr; cases hr
        | some q =>
          rw [hq] at hr
          have hnext : ∃ W' l', Linked B l' W' ∧ B ≤ l' ∧ Cnd B r r0 (at_ + 1) W' := by
            cases W with
            | nil => exact ⟨[], l, trivial, hl, hC.nil_tail⟩
            | cons w' W => exact ⟨W, w'.2, hL.2.2.2, hL.2.1, hC.tail⟩
          obtain ⟨W', l', k1, k2, k3⟩ := hnext
          rw [ih (at_ + 1) (r at_).2.1 (rem - 38) W' l' q k1 k2 k3 hst hB2 hq]
          exact hr
    · cases hr
/-- A record that is found is new altogether, or was found among the old. -/
theorem one_or {B : Nat} {r r0 : Nat → X} {at_ left l : Nat} {W : List (T × Nat)} {s : T} {n l' : Nat} (hL : Linked B l W) (hC : Cnd B r r0 at_ W) (hl : l < 18446744073709551616) (hB2 : B ≤ 18446744073709551616) (h : one r at_ left l = some (s, n, l')) :
    (∀ k, k < n → ∃ w, W[k]? = some w ∧ r (at_ + k) = (w.1, w.2, 0)) ∨ (one r0 at_ left l = some (s, n, l') ∧ l < B) := by
  unfold one at h
  split at h
  · rename_i hc
    obtain ⟨h0, h1, h2, h3, h4, h5, h6⟩ := hc
    have hlk := lnk_of9 h3 hl
    cases hq : rest r (need (lenOf (r at_).1) - 1) (at_ + 1) (r at_).2.1 (lenOf (r at_).1 - 36) with
    | none => rw [hq] at h; cases h
    | some q =>
      rw [hq] at h
      have hc0 := hC 0
      rw [Nat.add_zero] at hc0
      rcases hc0 with ⟨w, hw, he⟩ | hc0 | ⟨he, ho⟩
      · refine Or.inl fun k hk => ?_
        cases W with
        | nil => simp at hw
        | cons w' W =>
          rw [List.getElem?_cons_zero] at hw
          injection hw with hw
          subst hw
          obtain ⟨l1, l2, l3, l4⟩ := hL
          have hn : need (lenOf (r at_).1) = n := by
            injection h with h
            injection h with _ h
            injection h
          cases k with
          | zero => exact ⟨w', rfl, by rw [Nat.add_zero]; exact he⟩
          | succ k =>
            have hst : (r at_).2.1 = w'.2 := by rw [he]
            rw [hst] at hq
            obtain ⟨v, hv, hv2⟩ := rest_new _ (at_ + 1) w'.2 _ W q l4 hC.tail l2 l3 hq k (by omega)
            exact ⟨v, by rw [List.getElem?_cons_succ]; exact hv, by rw [show at_ + (k + 1) = at_ + 1 + k by omega]; exact hv2⟩
      · exact absurd h1 hc0
      · have ho' := ho
        rw [← he] at ho'
        have hst := (ho' h1).1
        have hlB : l < B := by have := (ho' h1).2; omega
        have hnext : ∃ W' l', Linked B l' W' ∧ B ≤ l' ∧ Cnd B r r0 (at_ + 1) W' := by
          cases W with
          | nil => exact ⟨[], B, trivial, Nat.le_refl _, hC.nil_tail⟩
          | cons w' W => exact ⟨W, w'.2, hL.2.2.2, hL.2.1, hC.tail⟩
        obtain ⟨W', l'', k1, k2, k3⟩ := hnext
        have hr0 := rest_old _ (at_ + 1) (r at_).2.1 _ W' l'' q k1 k2 k3 hst hB2 hq
        refine Or.inr ⟨?_, hlB⟩
        unfold one
        rw [← he, if_pos ⟨h0, h1, h2, h3, h4, h5, h6⟩, hr0]
        exact h
  · cases h
end Jrn
end Go.Proofs.YtjdklifkalnamaaGreatDoor

namespace Go.Proofs.YtjdklifkalnamaaGreatDoor
set_option linter.unusedVariables false

namespace Jrn
open Grd (eight num8 num8_eight eight_len)
/-- A record, and its sectors' stamps. -/
abbrev Rec := T × List Nat
def secs : Nat → List Rec → List (T × Nat)
  | _, [] => []
  | l, q :: N => pays l q.1 q.2 ++ secs (lastOr l q.2) N
def lastL : Nat → List Rec → Nat
  | l, [] => l
  | l, q :: N => lastL (lastOr l q.2) N
def usedL (N : List Rec) : Nat := (N.map fun q => need q.1.length).sum
structure RecOk (B : Nat) (q : Rec) : Prop where
  short : q.1.length ≤ 6000
  cnt : q.2.length = need q.1.length
  new : ∀ t ∈ q.2, B ≤ t ∧ t < 18446744073709551616
theorem lastOr_mem : ∀ (ts : List Nat) (l : Nat), ts ≠ [] → lastOr l ts ∈ ts := by
  intro ts
  induction ts with
  | nil => intro l h; exact absurd rfl h
  | cons t ts ih =>
    intro l _
    show lastOr t ts ∈ t :: ts
    by_cases h : ts = []
    · subst h; exact List.mem_cons_self
    · exact List.mem_cons_of_mem _ (ih t h)
theorem RecOk.ne {B : Nat} {q : Rec} (h : RecOk B q) : q.2 ≠ [] := fun e => by
  have h1 := h.cnt
  have h2 := need_pos q.1.length
  rw [e, List.length_nil] at h1
  omega
theorem RecOk.last {B : Nat} {q : Rec} (h : RecOk B q) (l : Nat) : B ≤ lastOr l q.2 ∧ lastOr l q.2 < 18446744073709551616 := h.new _ (lastOr_mem _ _ h.ne)
theorem linked_pays2 {B : Nat} (W : List (T × Nat)) : ∀ (ts : List Nat) (link : Nat) (t : T), (∀ x ∈ ts, B ≤ x ∧ x < 18446744073709551616) → link < 18446744073709551616 → Linked B (lastOr link ts) W → Linked B link (pays2 link t ts ++ W) := by
  intro ts
  induction ts with
  | nil => intro link t _ _ h; exact h
  | cons st ts ih =>
    intro link t hts hl h
    have h0 := hts st List.mem_cons_self
    exact ⟨lnk_of9 (piece2_take link t) hl, h0.1, h0.2, ih st (t.drop 38) (fun x hx => hts x (List.mem_cons_of_mem _ hx)) h0.2 h⟩
theorem linked_pays {B : Nat} {q : Rec} (hq : RecOk B q) {link : Nat} (hl : link < 18446744073709551616) {W : List (T × Nat)} (h : Linked B (lastOr link q.2) W) : Linked B link (pays link q.1 q.2 ++ W) := by
  obtain ⟨s, ts⟩ := q
  cases ts with
  | nil => exact absurd rfl hq.ne
  | cons st ts =>
    have h0 := hq.new st List.mem_cons_self
    exact ⟨lnk_of9 (piece1_take link s) hl, h0.1, h0.2, linked_pays2 W ts st (s.drop 36) (fun x hx => hq.new x (List.mem_cons_of_mem _ hx)) h0.2 h⟩
theorem linked_secs {B : Nat} : ∀ (N : List Rec) (l : Nat), (∀ q ∈ N, RecOk B q) → l < 18446744073709551616 → Linked B l (secs l N) := by
  intro N
  induction N with
  | nil => intro l _ _; trivial
  | cons q N ih =>
    intro l hN hl
    have hq := hN q List.mem_cons_self
    exact linked_pays hq hl (ih _ (fun x hx => hN x (List.mem_cons_of_mem _ hx)) (hq.last l).2)
theorem Cnd.drop {B : Nat} {r r0 : Nat → X} : ∀ (A W : List (T × Nat)) (at_ : Nat), Cnd B r r0 at_ (A ++ W) → Cnd B r r0 (at_ + A.length) W := by
  intro A
  induction A with
  | nil => intro W at_ h; exact h
  | cons a A ih =>
    intro W at_ h
    have := ih W (at_ + 1) h.tail
    rw [List.length_cons, show at_ + (A.length + 1) = at_ + 1 + A.length by omega]
    exact this
theorem one_n {r : Nat → X} {at_ left l : Nat} {s : T} {n l' : Nat} (h : one r at_ left l = some (s, n, l')) : n = need (lenOf (r at_).1) := by
  unfold one at h
  split at h
  · cases hq : rest r (need (lenOf (r at_).1) - 1) (at_ + 1) (r at_).2.1 (lenOf (r at_).1 - 36) with
    | none => rw [hq] at h; cases h
    | some q =>
      rw [hq] at h
      injection h with h
      injection h with _ h
      injection h with h _
      exact h.symm
  · cases h
theorem Agree.left {r : Nat → X} {at_ : Nat} {A W : List (T × Nat)} (h : Agree r at_ (A ++ W)) : Agree r at_ A := fun k w hw => h k w (by rw [List.getElem?_append_left (List.getElem?_eq_some_iff.1 hw).1]; exact hw)
theorem Agree.right {r : Nat → X} {at_ : Nat} {A W : List (T × Nat)} (h : Agree r at_ (A ++ W)) : Agree r (at_ + A.length) W := fun k w hw => by
  have := h (A.length + k) w (by rw [List.getElem?_append_right (by omega), show A.length + k - A.length = k by omega]; exact hw)
  rw [show at_ + A.length + k = at_ + (A.length + k) by omega]
  exact this
/-- **BEHIND A LOSS: THE NEW RECORDS UP TO SOME PLACE, NO FEWER THAN LAST.** -/
theorem parse_new {B : Nat} {r r0 : Nat → X} (hB2 : B ≤ 18446744073709551616) : ∀ (N : List Rec) (at_ left l fuel : Nat), (∀ q ∈ N, RecOk B q) → l < 18446744073709551616 → Cnd B r r0 at_ (secs l N) → (B ≤ l ∨ one r0 at_ left l = none) → N.length < fuel → usedL N ≤ left →
    ∃ j, j ≤ N.length ∧ parse r fuel at_ left l = ((N.take j).map Prod.fst, usedL (N.take j), lastL l (N.take j)) ∧ ∀ D, D ≤ N.length → Agree r at_ (secs l (N.take D)) → D ≤ j := by
  intro N
  induction N with
  | nil =>
    intro at_ left l fuel _ hl hC ho hf _
    obtain ⟨fuel, rfl⟩ : ∃ f, fuel = f + 1 := ⟨fuel - 1, by rw [List.length_nil] at hf; omega⟩
    have hnone : one r at_ left l = none := by
      cases h : one r at_ left l with
      | none => rfl
      | some q =>
        obtain ⟨s, n, l'⟩ := q
        exfalso
        rcases one_or (W := []) trivial hC hl hB2 h with h1 | ⟨h1, h2⟩
        · have hn := one_n h
          have hp := need_pos (lenOf (r at_).1)
          obtain ⟨w, hw, _⟩ := h1 0 (by omega)
          simp at hw
        · rcases ho with ho | ho
          · omega
          · rw [ho] at h1; cases h1
    refine ⟨0, Nat.le_refl _, ?_, fun D hD _ => hD⟩
    unfold parse
    rw [hnone]
    rfl
  | cons q N ih =>
    intro at_ left l fuel hN hl hC ho hf hu
    obtain ⟨fuel, rfl⟩ : ∃ f, fuel = f + 1 := ⟨fuel - 1, by rw [List.length_cons] at hf; omega⟩
    have hq := hN q List.mem_cons_self
    have hN' : ∀ x ∈ N, RecOk B x := fun x hx => hN x (List.mem_cons_of_mem _ hx)
    have hlast := hq.last l
    have hpl := pays_len q.2 l q.1
    have hU : usedL (q :: N) = need q.1.length + usedL N := by unfold usedL; rw [List.map_cons, List.sum_cons]
    by_cases hA : Agree r at_ (pays l q.1 q.2)
    · have hone := one_agree r q.2 at_ left l q.1 hA hq.short hq.cnt (by omega)
      have hC' : Cnd B r r0 (at_ + need q.1.length) (secs (lastOr l q.2) N) := by
        have := Cnd.drop _ _ _ hC
        rw [hpl, hq.cnt] at this
        exact this
      obtain ⟨j, hj, hp, hD⟩ := ih (at_ + need q.1.length) (left - need q.1.length) (lastOr l q.2) fuel hN' hlast.2 hC' (Or.inl hlast.1) (by rw [List.length_cons] at hf; omega) (by omega)
      refine ⟨j + 1, by rw [List.length_cons]; omega, ?_, fun D hDl hag => ?_⟩
      · unfold parse
        rw [hone]
        dsimp only
        rw [hp, List.take_succ_cons, List.map_cons]
        have : usedL (q :: N.take j) = need q.1.length + usedL (N.take j) := by unfold usedL; rw [List.map_cons, List.sum_cons]
        rw [this]
        rfl
      · cases D with
        | zero => omega
        | succ D =>
          rw [List.take_succ_cons] at hag
          have h2 := Agree.right (A := pays l q.1 q.2) hag
          rw [hpl, hq.cnt] at h2
          have := hD D (by rw [List.length_cons] at hDl; omega) h2
          omega
    · have hnone : one r at_ left l = none := by
        cases h : one r at_ left l with
        | none => rfl
        | some o =>
          obtain ⟨s', n, l'⟩ := o
          exfalso
          rcases one_or (linked_secs (q :: N) l hN hl) hC hl hB2 h with h1 | ⟨h1, h2⟩
          · refine hA ?_
            have hn := one_n h
            have hp := need_pos (lenOf (r at_).1)
            obtain ⟨w0, hw0, he0⟩ := h1 0 (by omega)
            have hfirst : (pays l q.1 q.2)[0]? = some w0 ∧ w0.1 = piece1 l q.1 := by
              obtain ⟨s, ts⟩ := q
              cases ts with
              | nil => exact absurd rfl hq.ne
              | cons st ts =>
                have hw0' : some (piece1 l s, st) = some w0 := hw0
                injection hw0' with hw0'
                subst hw0'
                exact ⟨rfl, rfl⟩
            have hlen : n = (pays l q.1 q.2).length := by
              rw [hn]
              rw [Nat.add_zero] at he0
              rw [he0]
              dsimp only
              rw [hfirst.2, piece1_lenOf _ _ hq.short, hpl, hq.cnt]
            intro k w hw
            have hk : k < (pays l q.1 q.2).length := (List.getElem?_eq_some_iff.1 hw).1
            obtain ⟨v, hv, he⟩ := h1 k (by omega)
            have hv' : (pays l q.1 q.2 ++ secs (lastOr l q.2) N)[k]? = some v := hv
            rw [List.getElem?_append_left hk, hw] at hv'
            injection hv' with hv'
            rw [hv']
            exact he
          · rcases ho with ho | ho
            · omega
            · rw [ho] at h1; cases h1
      refine ⟨0, Nat.zero_le _, ?_, fun D hDl hag => ?_⟩
      · unfold parse
        rw [hnone]
        rfl
      · cases D with
        | zero => exact Nat.le_refl _
        | succ D =>
          rw [List.take_succ_cons] at hag
          exact absurd (Agree.left (A := pays l q.1 q.2) hag) hA
end Jrn
end Go.Proofs.YtjdklifkalnamaaGreatDoor

namespace Go.Proofs.YtjdklifkalnamaaGreatDoor
set_option linter.unusedVariables false

namespace Jrn
open Grd (eight num8 num8_eight eight_len)
/-- A record with as many stamps as it needs. -/
structure Shp (q : Rec) : Prop where
  short : q.1.length ≤ 6000
  cnt : q.2.length = need q.1.length
theorem RecOk.shp {B : Nat} {q : Rec} (h : RecOk B q) : Shp q := ⟨h.short, h.cnt⟩
theorem usedL_cons (q : Rec) (N : List Rec) : usedL (q :: N) = need q.1.length + usedL N := by unfold usedL; rw [List.map_cons, List.sum_cons]
theorem secs_len : ∀ (N : List Rec) (l : Nat), (∀ q ∈ N, Shp q) → (secs l N).length = usedL N := by
  intro N
  induction N with
  | nil => intro l _; rfl
  | cons q N ih =>
    intro l h
    show (pays l q.1 q.2 ++ secs (lastOr l q.2) N).length = _
    rw [List.length_append, pays_len, (h q List.mem_cons_self).cnt, ih _ (fun x hx => h x (List.mem_cons_of_mem _ hx)), usedL_cons]
/-- Records that are there are found, and then what comes behind them. -/
theorem parse_pre {r : Nat → X} : ∀ (P : List Rec) (at_ left l fuel : Nat), (∀ q ∈ P, Shp q) → Agree r at_ (secs l P) → usedL P ≤ left →
    parse r (P.length + fuel) at_ left l = (P.map Prod.fst ++ (parse r fuel (at_ + usedL P) (left - usedL P) (lastL l P)).1, usedL P + (parse r fuel (at_ + usedL P) (left - usedL P) (lastL l P)).2.1, (parse r fuel (at_ + usedL P) (left - usedL P) (lastL l P)).2.2) := by
  intro P
  induction P with
  | nil =>
    intro at_ left l fuel _ _ _
    rw [List.length_nil, Nat.zero_add]
    show _ = ([] ++ (parse r fuel (at_ + 0) (left - 0) l).1, 0 + (parse r fuel (at_ + 0) (left - 0) l).2.1, (parse r fuel (at_ + 0) (left - 0) l).2.2)
    rw [Nat.add_zero, Nat.sub_zero, List.nil_append, Nat.zero_add]
  | cons q P ih =>
    intro at_ left l fuel hP hA hu
    have hq := hP q List.mem_cons_self
    rw [usedL_cons] at hu ⊢
    have hone := one_agree r q.2 at_ left l q.1 (Agree.left (A := pays l q.1 q.2) hA) hq.short hq.cnt (by omega)
    have hA' := Agree.right (A := pays l q.1 q.2) hA
    rw [pays_len, hq.cnt] at hA'
    have ih' := ih (at_ + need q.1.length) (left - need q.1.length) (lastOr l q.2) fuel (fun x hx => hP x (List.mem_cons_of_mem _ hx)) hA' (by omega)
    rw [List.length_cons, show P.length + 1 + fuel = (P.length + fuel) + 1 by omega]
    conv => lhs; unfold parse
    rw [hone]
    dsimp only
    rw [ih']
    have e1 : at_ + need q.1.length + usedL P = at_ + (need q.1.length + usedL P) := by omega
    have e2 : left - need q.1.length - usedL P = left - (need q.1.length + usedL P) := by omega
    rw [e1, e2]
    show _ = (q.1 :: (P.map Prod.fst ++ _), _, _)
    rw [Nat.add_assoc]
    rfl
/-- Where the records end nothing hangs. -/
theorem parse_end {r : Nat → X} : ∀ (fuel at_ left l : Nat), left < fuel → one r (at_ + (parse r fuel at_ left l).2.1) (left - (parse r fuel at_ left l).2.1) (parse r fuel at_ left l).2.2 = none := by
  intro fuel
  induction fuel with
  | zero => intro at_ left l h; omega
  | succ fuel ih =>
    intro at_ left l h
    cases ho : one r at_ left l with
    | none =>
      have e : parse r (fuel + 1) at_ left l = ([], 0, l) := by
        conv => lhs; unfold parse
        rw [ho]
      rw [e, Nat.add_zero, Nat.sub_zero]
      exact ho
    | some o =>
      obtain ⟨s, n, l'⟩ := o
      have hn := one_n ho
      have hp := need_pos (lenOf (r at_).1)
      have hle : 1 ≤ left := by
        unfold one at ho
        split at ho
        · rename_i hc; exact hc.1
        · cases ho
      have ih' := ih (at_ + n) (left - n) l' (by omega)
      have e : parse r (fuel + 1) at_ left l = (s :: (parse r fuel (at_ + n) (left - n) l').1, n + (parse r fuel (at_ + n) (left - n) l').2.1, (parse r fuel (at_ + n) (left - n) l').2.2) := by
        conv => lhs; unfold parse
        rw [ho]
      rw [e]
      dsimp only
      rw [show at_ + (n + (parse r fuel (at_ + n) (left - n) l').2.1) = at_ + n + (parse r fuel (at_ + n) (left - n) l').2.1 by omega, show left - (n + (parse r fuel (at_ + n) (left - n) l').2.1) = left - n - (parse r fuel (at_ + n) (left - n) l').2.1 by omega]
      exact ih'

/-! what is found is there -/
theorem rest_there {r : Nat → X} : ∀ (n at_ link rem : Nat) (t : T) (l' : Nat), rest r n at_ link rem = some (t, l') → rem ≤ n * 38 → t.length = rem ∧ ∃ ts, ts.length = n ∧ Agree r at_ (pays2 link t ts) ∧ lastOr link ts = l' := by
  intro n
  induction n with
  | zero =>
    intro at_ link rem t l' h hrem
    have h' : some (([] : T), link) = some (t, l') := h
    injection h' with h'
    injection h' with h1 h2
    subst h1 h2
    exact ⟨by rw [List.length_nil]; omega, [], rfl, (fun k w hw => by simp [pays2] at hw), rfl⟩
  | succ n ih =>
    intro at_ link rem t l' h hrem
    unfold rest at h
    split at h
    · rename_i hc
      obtain ⟨h1, h2, h3⟩ := hc
      cases hq : rest r n (at_ + 1) (r at_).2.1 (rem - 38) with
      | none => rw [hq] at h; cases h
      | some q =>
        rw [hq] at h
        injection h with h
        injection h with e1 e2
        obtain ⟨q1, q2⟩ := q
        dsimp only at e1 e2
        obtain ⟨g1, ts, g2, g3, g4⟩ := ih (at_ + 1) (r at_).2.1 (rem - 38) q1 q2 hq (by omega)
        have hd : ((r at_).1.drop 9).length = min rem 38 := by rw [List.length_drop, h2]; omega
        have ht : t.length = rem := by
          rw [← e1, List.length_append, hd, g1]
          omega
        have htake : t.take 38 = (r at_).1.drop 9 := by
          rw [← e1]
          by_cases h38 : 38 ≤ rem
          · rw [List.take_append_of_le_length (by rw [hd]; omega), List.take_of_length_le (by rw [hd]; omega)]
          · have : q1 = [] := List.eq_nil_of_length_eq_zero (by rw [g1]; omega)
            rw [this, List.append_nil, List.take_of_length_le (by rw [hd]; omega)]
        have hdrop : t.drop 38 = q1 := by
          rw [← e1]
          by_cases h38 : 38 ≤ rem
          · rw [List.drop_append_of_le_length (by rw [hd]; omega), List.drop_eq_nil_of_le (by rw [hd]; omega), List.nil_append]
          · have : q1 = [] := List.eq_nil_of_length_eq_zero (by rw [g1]; omega)
            rw [this, List.append_nil, List.drop_eq_nil_of_le (by rw [hd]; omega)]
        have hpiece : (r at_).1 = piece2 link t := by
          unfold piece2
          rw [htake]
          have hx := (List.take_append_drop 9 (r at_).1).symm
          rw [h3] at hx
          exact hx
        refine ⟨ht, (r at_).2.1 :: ts, by rw [List.length_cons, g2], ?_, by rw [← e2, ← g4]; rfl⟩
        intro k w hw
        unfold pays2 at hw
        cases k with
        | zero =>
          rw [List.getElem?_cons_zero] at hw
          injection hw with hw
          subst hw
          rw [Nat.add_zero]
          dsimp only
          rw [← hpiece, ← h1]
        | succ k =>
          rw [List.getElem?_cons_succ, hdrop] at hw
          have := g3 k w hw
          rw [show at_ + (k + 1) = at_ + 1 + k by omega]
          exact this
    · cases h
theorem one_there {r : Nat → X} {at_ left l : Nat} {s : T} {n l' : Nat} (h : one r at_ left l = some (s, n, l')) : ∃ ts, Shp (s, ts) ∧ Agree r at_ (pays l s ts) ∧ lastOr l ts = l' ∧ n = need s.length ∧ n ≤ left := by
  unfold one at h
  split at h
  · rename_i hc
    obtain ⟨h0, h1, h2, h3, h4, h5, h6⟩ := hc
    cases hq : rest r (need (lenOf (r at_).1) - 1) (at_ + 1) (r at_).2.1 (lenOf (r at_).1 - 36) with
    | none => rw [hq] at h; cases h
    | some q =>
      rw [hq] at h
      injection h with h
      injection h with e1 h
      injection h with e2 e3
      obtain ⟨q1, q2⟩ := q
      dsimp only at e1 e2 e3
      have hneed : lenOf (r at_).1 - 36 ≤ (need (lenOf (r at_).1) - 1) * 38 := by unfold need; omega
      obtain ⟨g1, ts, g2, g3, g4⟩ := rest_there _ _ _ _ q1 q2 hq hneed
      have hd : ((r at_).1.drop 11).length = min (lenOf (r at_).1) 36 := by rw [List.length_drop, h6]; omega
      have hs : s.length = lenOf (r at_).1 := by
        rw [← e1, List.length_append, hd, g1]
        omega
      have htake : s.take 36 = (r at_).1.drop 11 := by
        rw [← e1]
        by_cases h36 : 36 ≤ lenOf (r at_).1
        · rw [List.take_append_of_le_length (by rw [hd]; omega), List.take_of_length_le (by rw [hd]; omega)]
        · have : q1 = [] := List.eq_nil_of_length_eq_zero (by rw [g1]; omega)
          rw [this, List.append_nil, List.take_of_length_le (by rw [hd]; omega)]
      have hdrop : s.drop 36 = q1 := by
        rw [← e1]
        by_cases h36 : 36 ≤ lenOf (r at_).1
        · rw [List.drop_append_of_le_length (by rw [hd]; omega), List.drop_eq_nil_of_le (by rw [hd]; omega), List.nil_append]
        · have : q1 = [] := List.eq_nil_of_length_eq_zero (by rw [g1]; omega)
          rw [this, List.append_nil, List.drop_eq_nil_of_le (by rw [hd]; omega)]
      have h11 : (r at_).1.take 11 = 1 :: (eight l ++ [UInt8.ofNat (s.length / 256), UInt8.ofNat s.length]) := by
        have a1 : (r at_).1.take 11 = (r at_).1.take 9 ++ ((r at_).1.drop 9).take 2 := by
          rw [← List.take_append_drop 9 ((r at_).1.take 11), List.take_take, List.drop_take]
          rfl
        have a2 : ((r at_).1.drop 9).take 2 = [(r at_).1.getD 9 0, (r at_).1.getD 10 0] := by
          have h9 : 9 < (r at_).1.length := by omega
          have h10 : 10 < (r at_).1.length := by omega
          rw [List.drop_eq_getElem_cons h9, List.take_succ_cons, List.drop_eq_getElem_cons h10, List.take_succ_cons, List.take_zero]
          simp [List.getD, h9, h10]
        have hlt1 := ((r at_).1.getD 9 0).toNat_lt
        have hlt2 := ((r at_).1.getD 10 0).toNat_lt
        have b1 : UInt8.ofNat (s.length / 256) = (r at_).1.getD 9 0 := by
          apply UInt8.toNat_inj.1
          rw [UInt8.toNat_ofNat', hs]
          unfold lenOf
          omega
        have b2 : UInt8.ofNat s.length = (r at_).1.getD 10 0 := by
          apply UInt8.toNat_inj.1
          rw [UInt8.toNat_ofNat', hs]
          unfold lenOf
          omega
        rw [a1, h3, a2, b1, b2]
        rfl
      have hpiece : (r at_).1 = piece1 l s := by
        unfold piece1
        rw [htake]
        have hx := (List.take_append_drop 11 (r at_).1).symm
        rw [h11, List.cons_append, List.append_assoc] at hx
        exact hx
      have hnp := need_pos (lenOf (r at_).1)
      refine ⟨(r at_).2.1 :: ts, ⟨by rw [hs]; exact h4, by show (ts.length + 1) = need s.length; rw [g2, hs]; omega⟩, ?_, by rw [← e3, ← g4]; rfl, by rw [← e2, hs], by rw [← e2]; exact h5⟩
      intro k w hw
      unfold pays at hw
      cases k with
      | zero =>
        rw [List.getElem?_cons_zero] at hw
        injection hw with hw
        subst hw
        rw [Nat.add_zero]
        dsimp only
        rw [← hpiece, ← h1]
      | succ k =>
        rw [List.getElem?_cons_succ, hdrop] at hw
        have := g3 k w hw
        rw [show at_ + (k + 1) = at_ + 1 + k by omega]
        exact this
  · cases h
/-- **WHAT IS FOUND IS THERE.** -/
theorem parse_there {r : Nat → X} : ∀ (fuel at_ left l : Nat), ∃ P : List Rec, (∀ q ∈ P, Shp q) ∧ parse r fuel at_ left l = (P.map Prod.fst, usedL P, lastL l P) ∧ Agree r at_ (secs l P) ∧ usedL P ≤ left := by
  intro fuel
  induction fuel with
  | zero => intro at_ left l; exact ⟨[], by simp, rfl, (fun k w hw => by simp [secs] at hw), Nat.zero_le _⟩
  | succ fuel ih =>
    intro at_ left l
    cases ho : one r at_ left l with
    | none =>
      refine ⟨[], by simp, ?_, (fun k w hw => by simp [secs] at hw), Nat.zero_le _⟩
      conv => lhs; unfold parse
      rw [ho]
      rfl
    | some o =>
      obtain ⟨s, n, l'⟩ := o
      obtain ⟨ts, a1, a2, a3, a4, a5⟩ := one_there ho
      obtain ⟨P, p1, p2, p3, p4⟩ := ih (at_ + n) (left - n) l'
      refine ⟨(s, ts) :: P, ?_, ?_, ?_, ?_⟩
      · intro q hq
        rcases List.mem_cons.1 hq with rfl | hq
        · exact a1
        · exact p1 q hq
      · conv => lhs; unfold parse
        rw [ho]
        dsimp only
        rw [p2, usedL_cons, ← a3, a4]
        rfl
      · intro k w hw
        have hw' : (pays l s ts ++ secs (lastOr l ts) P)[k]? = some w := hw
        have hpl : (pays l s ts).length = n := by rw [pays_len, a1.cnt, a4]
        by_cases hk : k < (pays l s ts).length
        · rw [List.getElem?_append_left hk] at hw'
          exact a2 k w hw'
        · rw [List.getElem?_append_right (by omega), a3] at hw'
          have := p3 (k - (pays l s ts).length) w hw'
          rw [hpl] at this hk
          rw [show at_ + k = at_ + n + (k - n) by omega]
          exact this
      · rw [usedL_cons]
        show need s.length + usedL P ≤ left
        omega
end Jrn
end Go.Proofs.YtjdklifkalnamaaGreatDoor

namespace Go.Proofs.YtjdklifkalnamaaGreatDoor
set_option linter.unusedVariables false

namespace Grd
/-- Both ends bear a start below b (and b at most 256). -/
structure Low (b : Nat) (Q : T) : Prop where
  len : Q.length = 64
  z : ∀ j, j < 3 → Q.getD j 0 = 0
  h : (Q.getD 3 0).toNat < b
  y : ∀ j, 56 ≤ j → j < 59 → Q.getD j 0 = 0
  t : (Q.getD 59 0).toNat < b
/-- A stamp of the start b. -/
def Bst (b a : Nat) : Prop := b * 4294967296 ≤ a ∧ a < (b + 1) * 4294967296 ∧ 1 ≤ b ∧ b ≤ 255
theorem Bst.stm {b a : Nat} (h : Bst b a) : Stm a := ⟨by have := h.1; have := h.2.2.1; omega, by have := h.2.1; have := h.2.2.2; omega⟩
theorem eight_low {b a : Nat} (h : Bst b a) : (∀ j, j < 3 → (eight a).getD j 0 = 0) ∧ ((eight a).getD 3 0).toNat = b := by
  obtain ⟨h1, h2, h3, h4⟩ := h
  have e0 : a / 72057594037927936 = 0 := by omega
  have e1 : a / 281474976710656 = 0 := by omega
  have e2 : a / 1099511627776 = 0 := by omega
  have e3 : a / 4294967296 = b := by omega
  refine ⟨fun j hj => ?_, ?_⟩
  · unfold eight
    rw [e0, e1, e2]
    match j, hj with
    | 0, _ => rfl
    | 1, _ => rfl
    | 2, _ => rfl
  · show (UInt8.ofNat (a / 4294967296)).toNat = b
    rw [e3, u8_toNat]
    omega
theorem getD_take {l : T} {m j : Nat} (h : j < m) : (l.take m).getD j 0 = l.getD j 0 := by
  rw [List.getD_eq_getElem?_getD, List.getD_eq_getElem?_getD, List.getElem?_take, if_pos h]
theorem getD_drop (l : T) (m j : Nat) : (l.drop m).getD j 0 = l.getD (m + j) 0 := by
  rw [List.getD_eq_getElem?_getD, List.getD_eq_getElem?_getD, List.getElem?_drop]
theorem getD_mix {P Q : T} {c j : Nat} (hP : P.length = 64) (hc : c ≤ 64) : (P.take c ++ Q.drop c).getD j 0 = if j < c then P.getD j 0 else Q.getD j 0 := by
  rw [List.getD_eq_getElem?_getD, List.getD_eq_getElem?_getD, List.getD_eq_getElem?_getD]
  by_cases h : j < c
  · rw [if_pos h, List.getElem?_append_left (by rw [List.length_take]; omega), List.getElem?_take, if_pos h]
  · rw [if_neg h, List.getElem?_append_right (by rw [List.length_take]; omega), List.getElem?_drop, List.length_take]
    congr 2
    omega
theorem mix_len {P Q : T} {c : Nat} (hP : P.length = 64) (hQ : Q.length = 64) (hc : c ≤ 64) : (P.take c ++ Q.drop c).length = 64 := by
  rw [List.length_append, List.length_take, List.length_drop]
  omega
theorem ext64 {A B : T} (hA : A.length = 64) (hB : B.length = 64) (h : ∀ j, A.getD j 0 = B.getD j 0) : A = B := by
  apply List.ext_getElem (by rw [hA, hB])
  intro j h1 h2
  have := h j
  rw [List.getD_eq_getElem?_getD, List.getD_eq_getElem?_getD, List.getElem?_eq_getElem h1, List.getElem?_eq_getElem h2] at this
  exact this
theorem zeros_getD (n j : Nat) : (zeros n).getD j 0 = 0 := by
  unfold zeros
  rw [List.getD_eq_getElem?_getD, List.getElem?_replicate]
  split <;> rfl
theorem noughts_low {b : Nat} (h : 0 < b) : Low b noughts := by
  have e : ∀ j, noughts.getD j 0 = 0 := fun j => zeros_getD 64 j
  exact ⟨noughts_len, fun j _ => e j, by rw [e]; exact h, fun j _ _ => e j, by rw [e]; exact h⟩
theorem grd_low {b a : Nat} {s : T} (hs : s.length ≤ 47) (h : Bst b a) : Low (b + 1) (grd a s) := by
  obtain ⟨z, hb⟩ := eight_low h
  have h8 := grd_take8 a s
  have h56 := grd_drop56 (a := a) hs
  refine ⟨grd_len hs, fun j hj => ?_, ?_, fun j h1 h2 => ?_, ?_⟩
  · rw [← getD_take (m := 8) (by omega), h8]; exact z j hj
  · rw [← getD_take (m := 8) (by decide), h8, hb]; omega
  · have := getD_drop (grd a s) 56 (j - 56)
    rw [show 56 + (j - 56) = j by omega] at this
    rw [← this, h56]
    exact z _ (by omega)
  · have := getD_drop (grd a s) 56 3
    rw [← this, h56, hb]; omega
theorem Low.mono {b m : Nat} {Q : T} (h : Low b Q) (hm : b ≤ m) : Low m Q := ⟨h.len, h.z, Nat.lt_of_lt_of_le h.h hm, h.y, Nat.lt_of_lt_of_le h.t hm⟩
/-- What is torn of two is no worse. -/
theorem low_mix {b c : Nat} {P Q : T} (hP : Low b P) (hQ : Low b Q) (hc : c ≤ 64) : Low b (P.take c ++ Q.drop c) := by
  have e := fun j => getD_mix (P := P) (Q := Q) (c := c) (j := j) hP.len hc
  refine ⟨mix_len hP.len hQ.len hc, fun j hj => ?_, ?_, fun j h1 h2 => ?_, ?_⟩
  · rw [e]; split
    · exact hP.z j hj
    · exact hQ.z j hj
  · rw [e]; split
    · exact hP.h
    · exact hQ.h
  · rw [e]; split
    · exact hP.y j h1 h2
    · exact hQ.y j h1 h2
  · rw [e]; split
    · exact hP.t
    · exact hQ.t
theorem isG_same {M : T} (h : isG M = true) : M.getD 3 0 = M.getD 59 0 := by
  obtain ⟨_, g, _⟩ := isG_ends h
  have h1 := getD_take (l := M) (m := 8) (j := 3) (by decide)
  have h2 := getD_drop M 56 3
  rw [← h1, g, h2]
theorem head_small {M : T} (hl : M.length = 64) (h0 : M.getD 0 0 = 0) (h1 : M.getD 1 0 = 0) (h2 : M.getD 2 0 = 0) (h3 : M.getD 3 0 = 0) : num8 (M.take 8) < 4294967296 := by
  match M, hl with
  | a :: b :: c :: d :: e :: f :: g :: h :: r, _ =>
    have e0 : a = 0 := h0
    have e1 : b = 0 := h1
    have e2 : c = 0 := h2
    have e3 : d = 0 := h3
    subst e0 e1 e2 e3
    show num8 [0, 0, 0, 0, e, f, g, h] < 4294967296
    unfold num8
    simp only [List.foldl_cons, List.foldl_nil]
    have := e.toNat_lt
    have := f.toNat_lt
    have := g.toNat_lt
    have := h.toNat_lt
    have hz : (0 : UInt8).toNat = 0 := rfl
    omega
/-- **A WRITING OF THE START b, TORN OVER ANYTHING OF STARTS BELOW: ONE OF BOTH, OR IT IS TOLD.** -/
theorem mix_low {P Q : T} {b c : Nat} (hP : P = noughts ∨ ∃ a s, P = grd a s ∧ s.length ≤ 47 ∧ Bst b a) (hQ : Low b Q) (hc : c < 64) : P.take c ++ Q.drop c = P ∨ P.take c ++ Q.drop c = Q ∨ (rd (P.take c ++ Q.drop c)).2.2 = 17 := by
  have lP : P.length = 64 := by
    rcases hP with rfl | ⟨a, s, rfl, hs, _⟩
    · exact noughts_len
    · exact grd_len hs
  have zP : ∀ j, j < 3 → P.getD j 0 = 0 := by
    rcases hP with rfl | ⟨a, s, rfl, hs, ha⟩
    · exact fun j _ => zeros_getD 64 j
    · exact (grd_low hs ha).z
  have eM := fun j => getD_mix (P := P) (Q := Q) (c := c) (j := j) lP (by omega)
  have lM := mix_len (c := c) lP hQ.len (by omega)
  by_cases h3 : c ≤ 3
  · refine Or.inr (Or.inl (ext64 lM hQ.len fun j => ?_))
    rw [eM]
    split
    · rw [zP j (by omega), hQ.z j (by omega)]
    · rfl
  · have m3 := eM 3
    rw [if_pos (by omega)] at m3
    have m0 : ∀ j, j < 3 → (P.take c ++ Q.drop c).getD j 0 = 0 := fun j hj => by rw [eM, if_pos (by omega)]; exact zP j hj
    rcases hP with rfl | ⟨a, s, rfl, hs, ha⟩
    · have hg : isG (noughts.take c ++ Q.drop c) = false := by
        rw [Bool.eq_false_iff]
        intro hg
        have h1 := (isG_ends hg).2.2.1
        have h2 := head_small lM (m0 0 (by decide)) (m0 1 (by decide)) (m0 2 (by decide)) (by rw [m3]; exact zeros_getD 64 3)
        omega
      by_cases hn : noughts.take c ++ Q.drop c = noughts
      · exact Or.inl hn
      · exact Or.inr (Or.inr (rd_torn hn hg))
    · have hb3 : ((grd a s).getD 3 0).toNat = b := by
        rw [← getD_take (m := 8) (by decide), grd_take8]
        exact (eight_low ha).2
      have hn : (grd a s).take c ++ Q.drop c ≠ noughts := fun e => by
        have := m3
        rw [e, show noughts.getD 3 0 = 0 from zeros_getD 64 3] at this
        rw [← this] at hb3
        have h1 := ha.2.2.1
        have hz : (0 : UInt8).toNat = 0 := rfl
        omega
      by_cases h59 : c ≤ 59
      · have hg : isG ((grd a s).take c ++ Q.drop c) = false := by
          rw [Bool.eq_false_iff]
          intro hg
          have h1 := isG_same hg
          rw [m3, eM 59, if_neg (by omega)] at h1
          have h2 := hQ.t
          rw [← h1, hb3] at h2
          omega
        exact Or.inr (Or.inr (rd_torn hn hg))
      · by_cases hg : isG ((grd a s).take c ++ Q.drop c) = true
        · have e1 : ((grd a s).take c ++ Q.drop c).take 56 = (grd a s).take 56 := mix_take lP (by omega) (by omega)
          have e2 : ((grd a s).take c ++ Q.drop c).take 8 = (grd a s).take 8 := mix_take lP (by omega) (by omega)
          refine Or.inl (split56 e1 ?_)
          rw [← (isG_ends hg).2.1, e2, grd_take8, grd_drop56 hs]
        · exact Or.inr (Or.inr (rd_torn hn (by simpa using hg)))
end Grd
end Go.Proofs.YtjdklifkalnamaaGreatDoor

namespace Go.Proofs.YtjdklifkalnamaaGreatDoor
set_option linter.unusedVariables false

namespace Jrn
open Grd (eight num8 num8_eight eight_len)
open Dsk (St Fall Sec)
/-- What is read of a sector's lasting bytes. -/
def rs (d : St) (k : Nat) : X := match d.secs[k]? with | some x => Grd.rd x.sure | none => ([], 0, 5)
theorem rs_some {d : St} {k : Nat} {x : Sec} (h : d.secs[k]? = some x) : rs d k = Grd.rd x.sure := by unfold rs; rw [h]
theorem secs_append : ∀ (P N : List Rec) (l : Nat), secs l (P ++ N) = secs l P ++ secs (lastL l P) N := by
  intro P
  induction P with
  | nil => intro N l; rfl
  | cons q P ih =>
    intro N l
    show pays l q.1 q.2 ++ secs (lastOr l q.2) (P ++ N) = (pays l q.1 q.2 ++ secs (lastOr l q.2) P) ++ secs (lastL (lastOr l q.2) P) N
    rw [ih, List.append_assoc]
theorem lastL_append : ∀ (P N : List Rec) (l : Nat), lastL l (P ++ N) = lastL (lastL l P) N := by
  intro P
  induction P with
  | nil => intro N l; rfl
  | cons q P ih => intro N l; exact ih N (lastOr l q.2)
theorem usedL_append (P N : List Rec) : usedL (P ++ N) = usedL P + usedL N := by
  unfold usedL
  rw [List.map_append, List.sum_append]
theorem len_used : ∀ (N : List Rec), N.length ≤ usedL N := by
  intro N
  induction N with
  | nil => exact Nat.zero_le _
  | cons q N ih =>
    rw [usedL_cons, List.length_cons]
    have := need_pos q.1.length
    omega
/-- The last link is the first one, or a stamp. -/
theorem lastL_or : ∀ (N : List Rec) (l : Nat), (∀ q ∈ N, Shp q) → N ≠ [] → ∃ q ∈ N, lastL l N ∈ q.2 := by
  intro N
  induction N with
  | nil => intro l _ h; exact absurd rfl h
  | cons q N ih =>
    intro l hS _
    have hq := hS q (by simp)
    have hne : q.2 ≠ [] := fun e => by
      have h1 := hq.cnt
      have h2 := need_pos q.1.length
      rw [e, List.length_nil] at h1
      omega
    by_cases h : N = []
    · subst h
      exact ⟨q, by simp, lastOr_mem _ _ hne⟩
    · obtain ⟨q', h1, h2⟩ := ih (lastOr l q.2) (fun x hx => hS x (by simp [hx])) h
      exact ⟨q', by simp [h1], h2⟩
/-- Each stamp of a record stands in a sector. -/
theorem pays2_mem : ∀ (ts : List Nat) (l : Nat) (t : T) (x : Nat), x ∈ ts → ∃ w ∈ pays2 l t ts, w.2 = x := by
  intro ts
  induction ts with
  | nil => intro l t x h; cases h
  | cons s ts ih =>
    intro l t x h
    rcases List.mem_cons.1 h with rfl | h
    · exact ⟨(piece2 l t, x), by unfold pays2; simp, rfl⟩
    · obtain ⟨w, h1, h2⟩ := ih s (t.drop 38) x h
      exact ⟨w, by unfold pays2; simp [h1], h2⟩
theorem pays_mem {ts : List Nat} {l : Nat} {s : T} {x : Nat} (h : x ∈ ts) : ∃ w ∈ pays l s ts, w.2 = x := by
  cases ts with
  | nil => cases h
  | cons a ts =>
    rcases List.mem_cons.1 h with rfl | h
    · exact ⟨(piece1 l s, x), by unfold pays; simp, rfl⟩
    · obtain ⟨w, h1, h2⟩ := pays2_mem ts a (s.drop 36) x h
      exact ⟨w, by unfold pays; simp [h1], h2⟩
theorem secs_mem : ∀ (N : List Rec) (l : Nat) (q : Rec) (x : Nat), q ∈ N → x ∈ q.2 → ∃ w ∈ secs l N, w.2 = x := by
  intro N
  induction N with
  | nil => intro l q x h; cases h
  | cons p N ih =>
    intro l q x h hx
    rcases List.mem_cons.1 h with rfl | h
    · obtain ⟨w, h1, h2⟩ := pays_mem (l := l) (s := q.1) hx
      exact ⟨w, by unfold secs; exact List.mem_append_left _ h1, h2⟩
    · obtain ⟨w, h1, h2⟩ := ih (lastOr l p.2) q x h hx
      exact ⟨w, by unfold secs; exact List.mem_append_right _ h1, h2⟩
/-- What stands in sectors that are found is what is read. -/
theorem last_read {r : Nat → X} {at_ : Nat} {N : List Rec} {l B : Nat} (hS : ∀ q ∈ N, Shp q) (hA : Agree r at_ (secs l N)) (hO : ∀ k, OldX B (r k)) (hl : l < B) : lastL l N < B := by
  by_cases h : N = []
  · subst h; exact hl
  · obtain ⟨q, h1, h2⟩ := lastL_or N l hS h
    obtain ⟨w, h3, h4⟩ := secs_mem N l q _ h1 h2
    obtain ⟨k, hk, e⟩ := List.getElem_of_mem h3
    have := hA k w (by rw [List.getElem?_eq_getElem hk, e])
    have ho := hO (at_ + k) (by rw [this])
    rw [this] at ho
    rw [← h4]
    exact ho.1
/-- Data of a sector: how long, to what they hang. -/
theorem pays2_data : ∀ (ts : List Nat) (l : Nat) (t : T), ∀ w ∈ pays2 l t ts, w.1.length ≤ 47 ∧ w.2 ∈ ts := by
  intro ts
  induction ts with
  | nil => intro l t w h; cases h
  | cons s ts ih =>
    intro l t w h
    unfold pays2 at h
    rcases List.mem_cons.1 h with rfl | h
    · exact ⟨by show (piece2 l t).length ≤ 47; rw [piece2_len]; omega, by simp⟩
    · obtain ⟨h1, h2⟩ := ih s (t.drop 38) w h
      exact ⟨h1, by simp [h2]⟩
theorem pays_data {ts : List Nat} {l : Nat} {s : T} : ∀ w ∈ pays l s ts, w.1.length ≤ 47 ∧ w.2 ∈ ts := by
  intro w h
  cases ts with
  | nil => cases h
  | cons a ts =>
    unfold pays at h
    rcases List.mem_cons.1 h with rfl | h
    · exact ⟨by show (piece1 l s).length ≤ 47; rw [piece1_len]; omega, by simp⟩
    · obtain ⟨h1, h2⟩ := pays2_data ts a (s.drop 36) w h
      exact ⟨h1, by simp [h2]⟩
theorem secs_data : ∀ (N : List Rec) (l : Nat), ∀ w ∈ secs l N, w.1.length ≤ 47 ∧ ∃ q ∈ N, w.2 ∈ q.2 := by
  intro N
  induction N with
  | nil => intro l w h; cases h
  | cons p N ih =>
    intro l w h
    unfold secs at h
    rcases List.mem_append.1 h with h | h
    · obtain ⟨h1, h2⟩ := pays_data w h
      exact ⟨h1, p, by simp, h2⟩
    · obtain ⟨h1, q, h2, h3⟩ := ih _ w h
      exact ⟨h1, q, by simp [h2], h3⟩
theorem linked_lnk {B top : Nat} : ∀ (W : List (T × Nat)) (l : Nat), Linked B l W → l < top → (∀ w ∈ W, w.2 < top) → ∀ w ∈ W, lnk w.1 < top := by
  intro W
  induction W with
  | nil => intro l _ _ _ w h; cases h
  | cons v W ih =>
    intro l hL hl ht w h
    obtain ⟨h1, h2, h3, h4⟩ := hL
    rcases List.mem_cons.1 h with rfl | h
    · rw [h1]; exact hl
    · exact ih v.2 h4 (ht v (by simp)) (fun x hx => ht x (by simp [hx])) w h
/-- What is old hangs to nothing new. -/
theorem one_old {B : Nat} {r : Nat → X} {at_ left l : Nat} (h : OldX B (r at_)) (hl : B ≤ l) (h64 : l < 18446744073709551616) : one r at_ left l = none := by
  unfold one
  rw [if_neg]
  rintro ⟨_, h2, _, h4, _⟩
  have := (h h2).2
  rw [lnk_of9 h4 h64] at this
  omega

/-- What becomes of a sector. -/
theorem fallGo_at (f : Fall) : ∀ (L : List Sec) (q j : Nat) (s : Sec), L[j]? = some s → ∃ q', (Dsk.fallGo f q L)[j]? = some (match s.pend with | some p => Dsk.fallOne f q' s p | none => s) := by
  intro L
  induction L with
  | nil => intro q j s hs; simp at hs
  | cons x r ih =>
    intro q j s hs
    unfold Dsk.fallGo
    cases j with
    | zero =>
      rw [List.getElem?_cons_zero] at hs
      injection hs with hs
      subst hs
      refine ⟨q, ?_⟩
      cases hp : x.pend with
      | none => rfl
      | some p => rfl
    | succ j =>
      rw [List.getElem?_cons_succ] at hs
      cases hp : x.pend with
      | none =>
        obtain ⟨q', hq⟩ := ih q j s hs
        exact ⟨q', by rw [List.getElem?_cons_succ]; exact hq⟩
      | some p =>
        obtain ⟨q', hq⟩ := ih (q + 1) j s hs
        exact ⟨q', by rw [List.getElem?_cons_succ]; exact hq⟩

/-- A journal in the sectors from 3 on (60 of them, the seed 7), within the start b: the records P last; of the sectors of the records N, which are new, the first c are written. -/
structure Mid (b B : Nat) (P N : List Rec) (c : Nat) (d : St) : Prop where
  len : d.secs.length = 64
  b1 : 1 ≤ b
  b2 : b ≤ 255
  B1 : b * 4294967296 ≤ B
  B2 : B ≤ (b + 1) * 4294967296
  pre : ∀ q ∈ P, Shp q
  new : ∀ q ∈ N, RecOk B q
  top : ∀ q ∈ N, ∀ t ∈ q.2, t < (b + 1) * 4294967296
  room : usedL P + usedL N ≤ 60
  l0 : lastL 7 P < B
  agr : Agree (rs d) 3 (secs 7 P)
  fin : one (rs d) (3 + usedL P) (60 - usedL P) (lastL 7 P) = none
  old : ∀ k, OldX B (rs d k)
  low1 : ∀ (k : Nat) (x : Sec), d.secs[k]? = some x → Grd.Low (b + 1) x.sure
  low0 : ∀ (k : Nat) (x : Sec), 3 + usedL P ≤ k → d.secs[k]? = some x → Grd.Low b x.sure
  cle : c ≤ usedL N
  pend : ∀ j w, j < c → (secs (lastL 7 P) N)[j]? = some w → ∃ (x : Sec) (a : Nat), d.secs[3 + usedL P + j]? = some x ∧ x.pend = some (Grd.grd w.2 w.1, a)
  free : ∀ (k : Nat) (x : Sec), d.secs[k]? = some x → (k < 3 + usedL P ∨ 3 + usedL P + c ≤ k) → x.pend = none
/-- Behind a loss: each sector has what it had, or what was written, or is torn. -/
structure Lost (b B : Nat) (P N : List Rec) (d : St) : Prop where
  len : d.secs.length = 64
  b1 : 1 ≤ b
  B2 : B ≤ (b + 1) * 4294967296
  pre : ∀ q ∈ P, Shp q
  new : ∀ q ∈ N, RecOk B q
  room : usedL P + usedL N ≤ 60
  l0 : lastL 7 P < B
  agr : Agree (rs d) 3 (secs 7 P)
  was : ∃ r0, Cnd B (rs d) r0 (3 + usedL P) (secs (lastL 7 P) N) ∧ one r0 (3 + usedL P) (60 - usedL P) (lastL 7 P) = none
  old : ∀ k, OldX ((b + 1) * 4294967296) (rs d k)
  low1 : ∀ (k : Nat) (x : Sec), d.secs[k]? = some x → Grd.Low (b + 1) x.sure
  free : ∀ (k : Nat) (x : Sec), d.secs[k]? = some x → x.pend = none
theorem Mid.stamp {b B : Nat} {P N : List Rec} {c : Nat} {d : St} (h : Mid b B P N c d) {w : T × Nat} (hw : w ∈ secs (lastL 7 P) N) : Grd.Bst b w.2 ∧ w.1.length ≤ 47 ∧ B ≤ w.2 ∧ w.2 < (b + 1) * 4294967296 := by
  obtain ⟨h1, q, h2, h3⟩ := secs_data N _ w hw
  have h4 := (h.new q h2).new _ h3
  have h5 := h.top q h2 _ h3
  have h6 := h.B1
  exact ⟨⟨by omega, h5, h.b1, h.b2⟩, h1, h4.1, h5⟩
theorem Mid.linked {b B : Nat} {P N : List Rec} {c : Nat} {d : St} (h : Mid b B P N c d) : Linked B (lastL 7 P) (secs (lastL 7 P) N) := by
  have h1 := h.l0
  have h2 := h.B2
  have h3 := h.b2
  exact linked_secs N _ h.new (by omega)
theorem Mid.lnk {b B : Nat} {P N : List Rec} {c : Nat} {d : St} (h : Mid b B P N c d) {w : T × Nat} (hw : w ∈ secs (lastL 7 P) N) : lnk w.1 < (b + 1) * 4294967296 := by
  have h1 := h.l0
  have h2 := h.B2
  exact linked_lnk _ _ h.linked (by omega) (fun v hv => (h.stamp hv).2.2.2) w hw
theorem secs_len' {b B : Nat} {P N : List Rec} {c : Nat} {d : St} (h : Mid b B P N c d) : (secs (lastL 7 P) N).length = usedL N := secs_len N _ (fun q hq => (h.new q hq).shp)
/-- **THE POWER GOES.** -/
theorem mid_fall {b B : Nat} {P N : List Rec} {c : Nat} {d d' : St} (h : Mid b B P N c d) (f : Fall) (hd : d'.secs = Dsk.fallGo f 0 d.secs) : Lost b B P N d' := by
  have hWl := secs_len' h
  have hP3 := secs_len P 7 h.pre
  have key : ∀ (k : Nat) (x : Sec), d.secs[k]? = some x → ∃ x' : Sec, d'.secs[k]? = some x' ∧ x'.pend = none ∧ Grd.Low (b + 1) x'.sure ∧
      ((∃ j w, k = 3 + usedL P + j ∧ (secs (lastL 7 P) N)[j]? = some w ∧ Grd.rd x'.sure = (w.1, w.2, 0)) ∨ (Grd.rd x'.sure).2.2 ≠ 0 ∨ Grd.rd x'.sure = Grd.rd x.sure) ∧ (x.pend = none → x' = x) := by
    intro k x hx
    obtain ⟨q', hq⟩ := fallGo_at f d.secs 0 k x hx
    rw [← hd] at hq
    refine ⟨_, hq, ?_⟩
    cases hp : x.pend with
    | none => exact ⟨hp, h.low1 k x hx, Or.inr (Or.inr rfl), fun _ => rfl⟩
    | some p =>
      dsimp only
      refine ⟨Dsk.fallOne_pend .., ?_⟩
      have hk : 3 + usedL P ≤ k ∧ k < 3 + usedL P + c := by
        refine Classical.byContradiction fun hc => ?_
        have := h.free k x hx (by omega)
        rw [hp] at this
        cases this
      obtain ⟨j, rfl⟩ : ∃ j, k = 3 + usedL P + j := ⟨k - (3 + usedL P), by omega⟩
      have hjc : j < c := by omega
      have hcle := h.cle
      have hjl : j < (secs (lastL 7 P) N).length := by omega
      have hw := List.getElem?_eq_getElem hjl
      generalize (secs (lastL 7 P) N)[j] = w at hw
      obtain ⟨x2, a, e1, e2⟩ := h.pend j w hjc hw
      rw [hx] at e1
      injection e1 with e1
      subst e1
      rw [hp] at e2
      injection e2 with e2
      subst e2
      obtain ⟨hb, hwl, hw1, hw2⟩ := h.stamp (List.mem_of_getElem? hw)
      have hL0 := h.low0 _ x (by omega) hx
      have hL1 := h.low1 _ x hx
      have hG : Grd.Low (b + 1) (Grd.grd w.2 w.1) := Grd.grd_low hwl hb
      have hR : Grd.rd (Grd.grd w.2 w.1) = (w.1, w.2, 0) := Grd.rd_grd hwl hb.stm
      have hcut := Dsk.cut_lt f
      unfold Dsk.fallOne
      split
      · dsimp only
        split
        · rw [List.take_append_drop]
          exact ⟨hG, Or.inl ⟨j, w, rfl, hw, hR⟩, fun e => by cases e⟩
        · refine ⟨Grd.low_mix hG hL1 (by omega), ?_, fun e => by cases e⟩
          rcases Grd.mix_low (P := Grd.grd w.2 w.1) (Or.inr ⟨w.2, w.1, rfl, hwl, hb⟩) hL0 hcut with e | e | e
          · rw [e]; exact Or.inl ⟨j, w, rfl, hw, hR⟩
          · rw [e]; exact Or.inr (Or.inr rfl)
          · exact Or.inr (Or.inl (by rw [e]; decide))
      · split
        · exact ⟨hG, Or.inl ⟨j, w, rfl, hw, hR⟩, fun e => by cases e⟩
        · exact ⟨hL1, Or.inr (Or.inr rfl), fun e => by cases e⟩
  have hlen : d'.secs.length = 64 := by rw [hd, Dsk.fallGo_len]; exact h.len
  have back : ∀ (k : Nat) (x' : Sec), d'.secs[k]? = some x' → ∃ x : Sec, d.secs[k]? = some x := by
    intro k x' hx'
    have := (List.getElem?_eq_some_iff.1 hx').1
    have h64 := h.len
    exact ⟨_, List.getElem?_eq_getElem (by omega)⟩
  have hB2 := h.B2
  have hag : ∀ k, k < 3 + usedL P → rs d' k = rs d k := by
    intro k hk
    unfold rs
    cases hx : d.secs[k]? with
    | none =>
      have h64 := h.len
      have := List.getElem?_eq_none_iff.1 hx
      rw [List.getElem?_eq_none_iff.2 (by omega)]
    | some x =>
      obtain ⟨x', h1, _, _, _, h5⟩ := key k x hx
      rw [h1, h5 (h.free k x hx (Or.inl hk))]
  refine ⟨hlen, h.b1, h.B2, h.pre, h.new, h.room, h.l0, ?_, ⟨rs d, ?_, h.fin⟩, ?_, ?_, ?_⟩
  · intro k w hw
    have := (List.getElem?_eq_some_iff.1 hw).1
    rw [hag (3 + k) (by omega)]
    exact h.agr k w hw
  · intro k
    cases hx : d.secs[3 + usedL P + k]? with
    | none =>
      right; left
      have h64 := h.len
      have := List.getElem?_eq_none_iff.1 hx
      unfold rs
      rw [List.getElem?_eq_none_iff.2 (by omega)]
      decide
    | some x =>
      obtain ⟨x', h1, _, _, h4, _⟩ := key _ x hx
      rw [rs_some h1, rs_some hx]
      rcases h4 with ⟨j, w, e, hw, hr⟩ | h4 | h4
      · left
        obtain rfl : j = k := by omega
        exact ⟨w, hw, hr⟩
      · exact Or.inr (Or.inl h4)
      · refine Or.inr (Or.inr ⟨h4, ?_⟩)
        have := h.old (3 + usedL P + k)
        rw [rs_some hx] at this
        exact this
  · intro k
    cases hx : d.secs[k]? with
    | none =>
      intro hc
      exfalso
      have h64 := h.len
      have := List.getElem?_eq_none_iff.1 hx
      unfold rs at hc
      rw [List.getElem?_eq_none_iff.2 (by omega)] at hc
      cases hc
    | some x =>
      obtain ⟨x', h1, _, _, h4, _⟩ := key _ x hx
      rw [rs_some h1]
      rcases h4 with ⟨j, w, e, hw, hr⟩ | h4 | h4
      · intro _
        rw [hr]
        have hm := List.mem_of_getElem? hw
        exact ⟨(h.stamp hm).2.2.2, h.lnk hm⟩
      · intro hc; exact absurd hc h4
      · rw [h4]
        intro hc
        have := h.old k
        rw [rs_some hx] at this
        obtain ⟨a1, a2⟩ := this hc
        exact ⟨by omega, by omega⟩
  · intro k x' hx'
    obtain ⟨x, hx⟩ := back k x' hx'
    obtain ⟨x2, h1, _, h3, _⟩ := key k x hx
    rw [hx'] at h1
    injection h1 with h1
    rw [h1]
    exact h3
  · intro k x' hx'
    obtain ⟨x, hx⟩ := back k x' hx'
    obtain ⟨x2, h1, h2, _⟩ := key k x hx
    rw [hx'] at h1
    injection h1 with h1
    rw [h1]
    exact h2
end Jrn
end Go.Proofs.YtjdklifkalnamaaGreatDoor

namespace Go.Proofs.YtjdklifkalnamaaGreatDoor
set_option linter.unusedVariables false

namespace Grd
open Dsk (St Sec Fall)
/-- A call: 1 a flush, 0 an erasing, else s is put. -/
structure GOp where
  kind : Int
  i : Int
  s : T
/-- Does it write sector i? -/
def valid (o : GOp) (i : Nat) : Bool := decide (o.i = (i : Int)) && decide (o.kind ≠ 1) && (decide (o.kind = 0) || decide (o.s.length ≤ 47))
/-- The place behind the last of the first k calls that writes sector i; 0: none does. -/
def sureTo (sc : List GOp) (i : Nat) : Nat → Nat
  | 0 => 0
  | k + 1 => match sc[k]? with
    | some o => if valid o i = true then k + 1 else sureTo sc i k
    | none => sureTo sc i k
theorem sureTo_le (sc : List GOp) (i : Nat) : ∀ k, sureTo sc i k ≤ k := by
  intro k
  induction k with
  | zero => exact Nat.le_refl _
  | succ k ih =>
    unfold sureTo
    split
    · split <;> omega
    · omega
/-- Bytes that a call writes. -/
def Fits (o : GOp) (b : T) : Prop := (o.kind = 0 ∧ b = noughts) ∨ (o.kind ≠ 0 ∧ o.kind ≠ 1 ∧ o.s.length ≤ 47 ∧ ∃ a, Stm a ∧ b = grd a o.s)
theorem Fits.cont {o : GOp} {b : T} (h : Fits o b) : Cont b := by
  rcases h with ⟨_, rfl⟩ | ⟨_, _, hs, a, ha, rfl⟩
  · exact Or.inl rfl
  · exact Or.inr ⟨a, o.s, rfl, hs, ha⟩
/-- The bytes b are those of the call ahead of place j (0: noughts). -/
def HoldsAt (sc : List GOp) (i j : Nat) (b : T) : Prop := (j = 0 ∧ b = noughts) ∨ ∃ k o, j = k + 1 ∧ sc[k]? = some o ∧ valid o i = true ∧ Fits o b
theorem HoldsAt.cont {sc : List GOp} {i j : Nat} {b : T} (h : HoldsAt sc i j b) : Cont b := by
  rcases h with ⟨_, rfl⟩ | ⟨k, o, _, _, _, hf⟩
  · exact Or.inl rfl
  · exact hf.cont
/-- Its stamp, if it has one, is at most n. -/
def StB (n : Nat) (b : T) : Prop := ∀ a s, b = grd a s → Stm a → a ≤ n
theorem StB.mono {n m : Nat} {b : T} (h : StB n b) (hm : n ≤ m) : StB m b := fun a s e ha => Nat.le_trans (h a s e ha) hm
theorem grd_inj {a b : Nat} {s t : T} (ha : Stm a) (hb : Stm b) (h : grd a s = grd b t) : a = b := by
  have := congrArg (fun l => List.take 8 l) h
  simp only [grd_take8] at this
  exact eight_inj (by have := ha.2; omega) (by have := hb.2; omega) this
/-- What is known of one sector. -/
def SecOk (sc : List GOp) (i k done n : Nat) (s : Sec) : Prop :=
  HoldsAt sc i (sureTo sc i done) s.sure ∧ StB n s.sure ∧
  ((s.pend = none ∧ sureTo sc i k = sureTo sc i done) ∨ ∃ p, s.pend = some p ∧ done < sureTo sc i k ∧ HoldsAt sc i (sureTo sc i k) p.1 ∧ StB n p.1 ∧ Apart p.1 s.sure)
def Inv (sc : List GOp) (k done n : Nat) (d : St) : Prop := d.secs.length = 10 ∧ done ≤ k ∧ ∀ i, i < 10 → ∃ s, d.secs[i]? = some s ∧ SecOk sc i k done n s

theorem inv_start (sc : List GOp) (n : Nat) (d : St) (h : d.secs = (Dsk.fresh 10).secs) : Inv sc 0 0 n d := by
  refine ⟨by rw [h]; exact List.length_replicate, Nat.le_refl _, fun i hi => ⟨⟨List.replicate 64 0, 0, none⟩, ?_, Or.inl ⟨rfl, rfl⟩, fun a s e ha => ?_, Or.inl ⟨rfl, rfl⟩⟩⟩
  · rw [h]
    show (List.replicate 10 _)[i]? = _
    rw [List.getElem?_replicate, if_pos hi]
  · exact absurd e.symm (grd_ne ha)
/-- A call that writes no sector of the ten. -/
theorem inv_skip {sc : List GOp} {k done n m : Nat} {d : St} (h : Inv sc k done n d) {o : GOp} (ho : sc[k]? = some o) (hv : ∀ i, i < 10 → valid o i = false) (hm : n ≤ m) {d' : St} (hd : d'.secs = d.secs) : Inv sc (k + 1) done m d' := by
  obtain ⟨h1, h2, h3⟩ := h
  refine ⟨by rw [hd]; exact h1, by omega, fun i hi => ?_⟩
  obtain ⟨s, hs, a1, a2, a3⟩ := h3 i hi
  have e : sureTo sc i (k + 1) = sureTo sc i k := by
    show (match sc[k]? with | some o => _ | none => _) = _
    rw [ho]
    dsimp only
    rw [if_neg (by rw [hv i hi]; decide)]
  refine ⟨s, by rw [hd]; exact hs, a1, a2.mono hm, ?_⟩
  rw [e]
  rcases a3 with a3 | ⟨p, b1, b2, b3, b4, b5⟩
  · exact Or.inl a3
  · exact Or.inr ⟨p, b1, b2, b3, b4.mono hm, b5⟩
/-- A sector is written. -/
theorem inv_write {sc : List GOp} {k done n m : Nat} {d : St} (h : Inv sc k done n d) {o : GOp} (ho : sc[k]? = some o) {j : Nat} (hj : j < 10) (hv : valid o j = true) {b : T} (hf : Fits o b) (hn : ∀ a s, b = grd a s → Stm a → n < a) (hb : StB m b) (hm : n ≤ m) {at_ : Nat}
    {d' : St} (hd : d'.secs = d.secs.modify j fun x => ⟨x.sure, x.at_, some (b, at_)⟩) : Inv sc (k + 1) done m d' := by
  obtain ⟨h1, h2, h3⟩ := h
  refine ⟨by rw [hd, List.length_modify]; exact h1, by omega, fun i hi => ?_⟩
  obtain ⟨s, hs, a1, a2, a3⟩ := h3 i hi
  have hs' : d'.secs[i]? = some (if j = i then ⟨s.sure, s.at_, some (b, at_)⟩ else s) := by
    rw [hd, List.getElem?_modify, hs]
    by_cases he : j = i
    · simp [he]
    · simp [he]
  by_cases he : j = i
  · subst he
    rw [if_pos rfl] at hs'
    have e : sureTo sc j (k + 1) = k + 1 := by
      show (match sc[k]? with | some o => _ | none => _) = _
      rw [ho]
      dsimp only
      rw [if_pos hv]
    refine ⟨_, hs', a1, a2.mono hm, Or.inr ⟨(b, at_), rfl, by omega, ?_, hb, ?_⟩⟩
    · rw [e]
      exact Or.inr ⟨k, o, rfl, ho, hv, hf⟩
    · intro x s1 y s2 e1 e2 hx hy hxy
      have q1 := hn x s1 e1 hx
      have q2 := a2 y s2 e2 hy
      omega
  · rw [if_neg he] at hs'
    have hvi : valid o i = false := by
      rw [Bool.eq_false_iff]
      intro hc
      unfold valid at hv hc
      simp only [Bool.and_eq_true, decide_eq_true_eq] at hv hc
      have := hv.1.1
      have := hc.1.1
      omega
    have e : sureTo sc i (k + 1) = sureTo sc i k := by
      show (match sc[k]? with | some o => _ | none => _) = _
      rw [ho]
      dsimp only
      rw [if_neg (by rw [hvi]; decide)]
    refine ⟨s, hs', a1, a2.mono hm, ?_⟩
    rw [e]
    rcases a3 with a3 | ⟨p, b1, b2, b3, b4, b5⟩
    · exact Or.inl a3
    · exact Or.inr ⟨p, b1, b2, b3, b4.mono hm, b5⟩
/-- A flush went well. -/
theorem inv_flush {sc : List GOp} {k done n : Nat} {d : St} (h : Inv sc k done n d) {o : GOp} (ho : sc[k]? = some o) (hk : o.kind = 1) {d' : St} (hd : d'.secs = d.secs.map Dsk.flushed) : Inv sc (k + 1) (k + 1) n d' := by
  obtain ⟨h1, h2, h3⟩ := h
  refine ⟨by rw [hd, List.length_map]; exact h1, Nat.le_refl _, fun i hi => ?_⟩
  obtain ⟨s, hs, a1, a2, a3⟩ := h3 i hi
  have e : sureTo sc i (k + 1) = sureTo sc i k := by
    show (match sc[k]? with | some o => _ | none => _) = _
    rw [ho]
    dsimp only
    rw [if_neg (by unfold valid; rw [hk]; simp)]
  refine ⟨Dsk.flushed s, by rw [hd, List.getElem?_map, hs]; rfl, ?_⟩
  unfold SecOk
  rw [e]
  rcases a3 with ⟨b1, b2⟩ | ⟨p, b1, b2, b3, b4, b5⟩
  · have hfl : Dsk.flushed s = s := by unfold Dsk.flushed; rw [b1]
    rw [hfl, b2]
    exact ⟨a1, a2, Or.inl ⟨b1, rfl⟩⟩
  · have hfl : Dsk.flushed s = ⟨p.1, p.2, none⟩ := by unfold Dsk.flushed; rw [b1]
    rw [hfl]
    exact ⟨b3, b4, Or.inl ⟨rfl, rfl⟩⟩

/-! what the statement asks of a sector -/
/-- Does the call at place k speak of sector i, no earlier than sure? -/
def asks (sc : List GOp) (i sure k : Nat) : Bool := match sc[k]? with
  | some o => decide (o.i = (i : Int)) && decide (o.kind ≠ 1) && decide (sure ≤ k + 1)
  | none => false
def later (sc : List GOp) (i sure : Nat) : Nat → Bool
  | 0 => false
  | k + 1 => later sc i sure k || (asks sc i sure k && decide (sure < k + 1))
def okBy (sc : List GOp) (i sure : Nat) (r : T × Nat × Int) (k : Nat) : Bool := asks sc i sure k && match sc[k]? with
  | some o => if o.kind = 0 then decide (r.2.2 = 7) else decide (r.2.2 = 0) && decide (r.1 = o.s)
  | none => false
def okTo (sc : List GOp) (i sure : Nat) (r : T × Nat × Int) : Nat → Bool
  | 0 => decide (sure = 0) && decide (r.2.2 = 7)
  | k + 1 => okTo sc i sure r k || okBy sc i sure r k
theorem okTo_of {sc : List GOp} {i sure : Nat} {r : T × Nat × Int} {k : Nat} (h : okBy sc i sure r k = true) : ∀ m, k < m → okTo sc i sure r m = true := by
  intro m
  induction m with
  | zero => intro h; omega
  | succ m ih =>
    intro hm
    unfold okTo
    by_cases he : k = m
    · subst he; rw [h, Bool.or_true]
    · rw [ih (by omega), Bool.true_or]
theorem okTo_zero {sc : List GOp} {i sure : Nat} {r : T × Nat × Int} (h : (decide (sure = 0) && decide (r.2.2 = 7)) = true) : ∀ m, okTo sc i sure r m = true := by
  intro m
  induction m with
  | zero => exact h
  | succ m ih => unfold okTo; rw [ih, Bool.true_or]
theorem later_of {sc : List GOp} {i sure k : Nat} (h : asks sc i sure k = true) (hs : sure < k + 1) : ∀ m, k < m → later sc i sure m = true := by
  intro m
  induction m with
  | zero => intro h; omega
  | succ m ih =>
    intro hm
    unfold later
    by_cases he : k = m
    · subst he; rw [h, decide_eq_true hs]; simp
    · rw [ih (by omega), Bool.true_or]
theorem valid_asks {sc : List GOp} {i sure k : Nat} {o : GOp} (ho : sc[k]? = some o) (hv : valid o i = true) (hs : sure ≤ k + 1) : asks sc i sure k = true := by
  unfold asks
  rw [ho]
  unfold valid at hv
  simp only [Bool.and_eq_true, decide_eq_true_eq] at hv
  simp [hv.1.1, hv.1.2, hs]
/-- Bytes of the call at a place answer for it. -/
theorem holds_ok {sc : List GOp} {i j sure m : Nat} {b : T} (h : HoldsAt sc i j b) (hs : sure ≤ j) (hz : j = 0 → sure = 0) (hm : j ≤ m) : okTo sc i sure (rd b) m = true := by
  rcases h with ⟨rfl, rfl⟩ | ⟨k, o, rfl, ho, hv, hf⟩
  · exact okTo_zero (by rw [rd_noughts]; simp; omega) m
  · refine okTo_of (k := k) ?_ m (by omega)
    unfold okBy
    rw [valid_asks ho hv hs, ho, Bool.true_and]
    dsimp only
    rcases hf with ⟨hk, rfl⟩ | ⟨hk, _, hl, a, ha, rfl⟩
    · rw [if_pos hk, rd_noughts]; rfl
    · rw [if_neg hk, rd_grd hl ha]; simp
/-- **WHOLE, OR TOLD TO BE TORN.** -/
theorem whole {sc : List GOp} {k done n m : Nat} {d : St} (h : Inv sc k done n d) (hk : k ≤ m) (f : Fall) {i : Nat} (hi : i < 10) :
    ∃ s, (Dsk.fallGo f 0 d.secs)[i]? = some s ∧ (okTo sc i (sureTo sc i done) (rd s.sure) m || (decide ((rd s.sure).2.2 = 17) && later sc i (sureTo sc i done) m)) = true := by
  obtain ⟨h1, h2, h3⟩ := h
  obtain ⟨s, hs, a1, a2, a3⟩ := h3 i hi
  have hsd := sureTo_le sc i done
  have hsk := sureTo_le sc i k
  -- what becomes of sector i
  have hgo : ∀ (L : List Sec) (q j : Nat) (s : Sec), L[j]? = some s → ∃ q', (Dsk.fallGo f q L)[j]? = some (match s.pend with | some p => Dsk.fallOne f q' s p | none => s) := by
    intro L
    induction L with
    | nil => intro q j s hs; simp at hs
    | cons x r ih =>
      intro q j s hs
      unfold Dsk.fallGo
      cases j with
      | zero =>
        rw [List.getElem?_cons_zero] at hs
        injection hs with hs
        subst hs
        refine ⟨q, ?_⟩
        cases hp : x.pend with
        | none => rfl
        | some p => rfl
      | succ j =>
        rw [List.getElem?_cons_succ] at hs
        cases hp : x.pend with
        | none =>
          obtain ⟨q', hq⟩ := ih q j s hs
          exact ⟨q', by rw [List.getElem?_cons_succ]; exact hq⟩
        | some p =>
          obtain ⟨q', hq⟩ := ih (q + 1) j s hs
          exact ⟨q', by rw [List.getElem?_cons_succ]; exact hq⟩
  obtain ⟨q, hq⟩ := hgo d.secs 0 i s hs
  refine ⟨_, hq, ?_⟩
  have hA : okTo sc i (sureTo sc i done) (rd s.sure) m = true := holds_ok a1 (Nat.le_refl _) (fun e => e) (by omega)
  rcases a3 with ⟨b1, b2⟩ | ⟨p, b1, b2, b3, b4, b5⟩
  · rw [b1]
    dsimp only
    rw [hA, Bool.true_or]
  · rw [b1]
    dsimp only
    have hB : okTo sc i (sureTo sc i done) (rd p.1) m = true := holds_ok b3 (by omega) (fun e => by omega) (by omega)
    have hLat : later sc i (sureTo sc i done) m = true := by
      rcases b3 with ⟨e, _⟩ | ⟨k', o, e, ho, hv, _⟩
      · omega
      · exact later_of (valid_asks ho hv (by omega)) (by omega) m (by omega)
    unfold Dsk.fallOne
    split
    · dsimp only
      have hc := Dsk.cut_lt f
      split
      · rw [List.take_append_drop]
        rw [hB, Bool.true_or]
      · rcases mix b3.cont a1.cont b5 (Dsk.cut f) hc with e | e | e
        · rw [e, hB, Bool.true_or]
        · rw [e, hA, Bool.true_or]
        · rw [decide_eq_true e, hLat]
          simp
    · split
      · dsimp only
        rw [hB, Bool.true_or]
      · dsimp only
        rw [hA, Bool.true_or]
end Grd
end Go.Proofs.YtjdklifkalnamaaGreatDoor

namespace Go.Proofs.YtjdklifkalnamaaGreatDoor
set_option linter.unusedVariables false

namespace Grd
open Dsk (St Sec Fall)
/-- The stamp of the next sector that is put. -/
def stamp (boot wr : Nat) : Nat := boot * 4294967296 + wr + 1
/-- What Put answers (stamp, code), how many sectors were then written, and the disk. -/
def put (boot wr : Nat) (d : Dsk.St) (i : Int) (s : T) : Int × Int × Nat × Dsk.St :=
  if 47 < s.length then (0, 3, wr, d) else if wr = 4294967295 then (0, 6, wr, d)
  else if (Dsk.write d i (grd (stamp boot wr) s)).1 ≠ 0 then (0, (Dsk.write d i (grd (stamp boot wr) s)).1, wr, (Dsk.write d i (grd (stamp boot wr) s)).2)
  else ((stamp boot wr : Int), 0, wr + 1, (Dsk.write d i (grd (stamp boot wr) s)).2)

/-- What is read of a disk's sector. -/
def read (d : Dsk.St) (i : Int) : T × Int × Int :=
  if (Dsk.read d i).2 ≠ 0 then ([], 0, (Dsk.read d i).2) else ((rd (Dsk.read d i).1).1, ((rd (Dsk.read d i).1).2.1 : Int), (rd (Dsk.read d i).1).2.2)
theorem read_len {d : Dsk.St} (h : Dsk.Good d) (i : Int) (h0 : (Dsk.read d i).2 = 0) : (Dsk.read d i).1.length = 64 := by
  unfold Dsk.read at h0 ⊢
  by_cases hu : d.up = false
  · rw [if_pos hu] at h0
    cases h0
  · rw [if_neg hu] at h0 ⊢
    by_cases hi : ¬ (0 ≤ i ∧ i < (d.secs.length : Int))
    · rw [if_pos hi] at h0
      cases h0
    · rw [if_neg hi]
      have hi : 0 ≤ i ∧ i < (d.secs.length : Int) := Classical.not_not.1 hi
      have hl : i.toNat < d.secs.length := by omega
      show (((d.secs[i.toNat]?).map Dsk.Sec.now).getD []).length = 64
      rw [List.getElem?_eq_getElem hl, Option.map_some, Option.getD_some]
      have hf := h _ (List.getElem_mem hl)
      unfold Dsk.Sec.now
      split
      · rename_i p hp
        exact hf.2 p hp
      · exact hf.1
/-- The power is on. -/
structure WUp (L : List GOp) (f : Fall) (k done wr : Nat) (d : St) : Prop where
  up : d.up = true
  arm : ∀ n f', d.arm = some (n, f') → f' = f
  inv : Inv L k done (4294967296 + wr) d
  wr : wr ≤ k
  acts : d.acts ≤ k
  falls : d.falls = 0
/-- The power has gone, by f. -/
structure WDown (L : List GOp) (f : Fall) (k done : Nat) (d : St) : Prop where
  up : d.up = false
  acts : d.acts ≤ k
  falls : d.falls ≤ 1
  was : ∃ k0 n d0, k0 ≤ k ∧ Inv L k0 done n d0 ∧ d.secs = Dsk.fallGo f 0 d0.secs
def WInv (L : List GOp) (f : Fall) (k done wr : Nat) (d : St) : Prop := wr ≤ k ∧ (WUp L f k done wr d ∨ WDown L f k done d)
theorem WInv.acts {L : List GOp} {f : Fall} {k done wr : Nat} {d : St} (h : WInv L f k done wr d) : d.acts ≤ k := h.2.elim (·.acts) (·.acts)
theorem WInv.falls {L : List GOp} {f : Fall} {k done wr : Nat} {d : St} (h : WInv L f k done wr d) : d.falls ≤ 1 := h.2.elim (fun x => by rw [x.falls]; omega) (·.falls)
theorem WInv.ups {L : List GOp} {f : Fall} {k done wr : Nat} {d : St} (h : WInv L f k done wr d) (hu : d.up = true) : WUp L f k done wr d := h.2.elim id (fun x => by rw [x.up] at hu; cases hu)
theorem Inv.done_le {sc : List GOp} {k done n : Nat} {d : St} (h : Inv sc k done n d) : done ≤ k := h.2.1
theorem WInv.done_le {L : List GOp} {f : Fall} {k done wr : Nat} {d : St} (h : WInv L f k done wr d) : done ≤ k := h.2.elim (fun x => x.inv.done_le) (fun x => by
  obtain ⟨k0, n, d0, h1, h2, _⟩ := x.was
  have := h2.done_le
  omega)
theorem w_act {L : List GOp} {f : Fall} {k done wr : Nat} {d : St} (h : WUp L f k done wr d) :
    ((Dsk.act d).1 = false ∧ WDown L f (k + 1) done (Dsk.act d).2) ∨
    ((Dsk.act d).1 = true ∧ (Dsk.act d).2.secs = d.secs ∧ (Dsk.act d).2.up = true ∧ (∀ n f', (Dsk.act d).2.arm = some (n, f') → f' = f) ∧ (Dsk.act d).2.acts ≤ k + 1 ∧ (Dsk.act d).2.falls = 0) := by
  have h1 := h.acts
  have h2 := h.falls
  cases ha : d.arm with
  | none =>
    right
    have e : Dsk.act d = (true, { d with acts := d.acts + 1 }) := by unfold Dsk.act; rw [ha]
    rw [e]
    exact ⟨rfl, rfl, h.up, fun n f' h' => h.arm n f' h', by show d.acts + 1 ≤ k + 1; omega, h.falls⟩
  | some p =>
    obtain ⟨n, f'⟩ := p
    have hf := h.arm n f' ha
    subst hf
    cases n with
    | zero =>
      left
      have e : Dsk.act d = (false, Dsk.fall f' d) := by unfold Dsk.act; rw [ha]
      rw [e]
      exact ⟨rfl, rfl, by show d.acts ≤ k + 1; omega, by show d.falls + 1 ≤ 1; omega, k, _, d, by omega, h.inv, rfl⟩
    | succ n =>
      right
      have e : Dsk.act d = (true, { d with arm := some (n, f'), acts := d.acts + 1 }) := by unfold Dsk.act; rw [ha]
      rw [e]
      refine ⟨rfl, rfl, h.up, fun n2 f2 h' => ?_, by show d.acts + 1 ≤ k + 1; omega, h.falls⟩
      have h'' : some (n, f') = some (n2, f2) := h'
      injection h'' with h''
      injection h'' with _ h''
      exact h''.symm
theorem w_flush {L : List GOp} {f : Fall} {k done wr : Nat} {d : St} (h : WUp L f k done wr d) {o : GOp} (ho : L[k]? = some o) (hk : o.kind = 1) :
    ((Dsk.flush d).1 = 0 ∧ WInv L f (k + 1) (k + 1) wr (Dsk.flush d).2) ∨ ((Dsk.flush d).1 = 8 ∧ WInv L f (k + 1) done wr (Dsk.flush d).2) := by
  have hwr := h.wr
  have e : Dsk.flush d = if (Dsk.act d).1 = false then (8, (Dsk.act d).2) else (0, { (Dsk.act d).2 with secs := (Dsk.act d).2.secs.map Dsk.flushed }) := by
    unfold Dsk.flush
    rw [if_neg (by rw [h.up]; decide)]
  rcases w_act h with ⟨a, b⟩ | ⟨a, b1, b2, b3, b4, b5⟩
  · right
    rw [e, if_pos a]
    exact ⟨rfl, by omega, Or.inr b⟩
  · left
    rw [e, if_neg (by rw [a]; decide)]
    refine ⟨rfl, by omega, Or.inl ⟨b2, b3, inv_flush h.inv ho hk (by show (Dsk.act d).2.secs.map _ = _; rw [b1]), by omega, b4, b5⟩⟩
/-- Bytes are written. -/
theorem w_write {L : List GOp} {f : Fall} {k done wr wr' : Nat} {d : St} (h : WUp L f k done wr d) {o : GOp} (ho : L[k]? = some o) {b : T} (h64 : b.length = 64)
    (hv : ∀ j : Nat, valid o j = decide (o.i = (j : Int))) (hf : Fits o b) (hw : wr ≤ wr') (hw' : wr' ≤ wr + 1) (hn : ∀ a s, b = grd a s → Stm a → 4294967296 + wr < a) (hb : StB (4294967296 + wr') b) :
    ((Dsk.write d o.i b).1 = 0 ∧ WInv L f (k + 1) done wr' (Dsk.write d o.i b).2) ∨ ((Dsk.write d o.i b).1 ≠ 0 ∧ WInv L f (k + 1) done wr (Dsk.write d o.i b).2) := by
  have hwr := h.wr
  have hacts := h.acts
  have hlen := h.inv.1
  by_cases hi : 0 ≤ o.i ∧ o.i < (d.secs.length : Int)
  · have e : Dsk.write d o.i b = if (Dsk.act d).1 = false then (8, (Dsk.act d).2) else (0, Dsk.put (Dsk.act d).2 o.i.toNat b) := by
      unfold Dsk.write
      rw [if_neg (by rw [h.up]; decide), if_neg (fun hn => hn hi), if_neg (by omega)]
    rcases w_act h with ⟨a, b0⟩ | ⟨a, b1, b2, b3, b4, b5⟩
    · right
      rw [e, if_pos a]
      exact ⟨show (8 : Int) ≠ 0 by decide, by omega, Or.inr b0⟩
    · left
      rw [e, if_neg (by rw [a]; decide)]
      refine ⟨rfl, by omega, Or.inl ⟨b2, b3, ?_, by omega, b4, b5⟩⟩
      have hj : o.i.toNat < 10 := by omega
      exact inv_write h.inv ho hj (by rw [hv]; exact decide_eq_true (by omega)) hf hn hb (by omega) (at_ := (Dsk.act d).2.acts) (by
        show (Dsk.act d).2.secs.modify _ _ = _
        rw [b1])
  · right
    have e : Dsk.write d o.i b = (5, d) := by
      unfold Dsk.write
      rw [if_neg (by rw [h.up]; decide), if_pos hi]
    rw [e]
    refine ⟨show (5 : Int) ≠ 0 by decide, by omega, Or.inl ⟨h.up, h.arm, inv_skip h.inv ho (fun j hj => ?_) (Nat.le_refl _) rfl, by omega, by show d.acts ≤ k + 1; omega, h.falls⟩⟩
    rw [hv]
    exact decide_eq_false (by omega)
theorem w_erase {L : List GOp} {f : Fall} {k done wr : Nat} {d : St} (h : WUp L f k done wr d) {o : GOp} (ho : L[k]? = some o) (hk : o.kind = 0) : WInv L f (k + 1) done wr (Dsk.write d o.i noughts).2 := by
  have hw := w_write (wr' := wr) h ho noughts_len (fun j => by unfold valid; rw [hk]; simp) (Or.inl ⟨hk, rfl⟩) (Nat.le_refl _) (by omega) (fun a s e ha => absurd e.symm (grd_ne ha)) (fun a s e ha => absurd e.symm (grd_ne ha))
  exact hw.elim (·.2) (·.2)
theorem w_put {L : List GOp} {f : Fall} {k done wr : Nat} {d : St} (h : WUp L f k done wr d) (hk40 : k < 40) {o : GOp} (ho : L[k]? = some o) (hk : o.kind ≠ 0) (hk1 : o.kind ≠ 1) : WInv L f (k + 1) done (put 1 wr d o.i o.s).2.2.1 (put 1 wr d o.i o.s).2.2.2 := by
  have hwr := h.wr
  have hacts := h.acts
  unfold put
  by_cases hl : 47 < o.s.length
  · rw [if_pos hl]
    refine ⟨by show wr ≤ k + 1; omega, Or.inl ⟨h.up, h.arm, inv_skip h.inv ho (fun j hj => ?_) (Nat.le_refl _) rfl, by show wr ≤ k + 1; omega, by show d.acts ≤ k + 1; omega, h.falls⟩⟩
    unfold valid
    rw [decide_eq_false hk, decide_eq_false (show ¬ o.s.length ≤ 47 by omega)]
    simp
  · rw [if_neg hl, if_neg (by omega)]
    have hs : stamp 1 wr = 4294967296 + wr + 1 := by unfold stamp; omega
    have hst : Stm (stamp 1 wr) := ⟨by omega, by omega⟩
    have hl' : o.s.length ≤ 47 := by omega
    have hw := w_write (wr' := wr + 1) (b := grd (stamp 1 wr) o.s) h ho (grd_len hl') (fun j => by
      unfold valid
      rw [decide_eq_true hl', decide_eq_true hk1]
      simp) (Or.inr ⟨hk, hk1, hl', _, hst, rfl⟩) (by omega) (Nat.le_refl _) (fun a s e ha => by
      have := grd_inj hst ha e
      omega) (fun a s e ha => by
      have := grd_inj hst ha e
      omega)
    rcases hw with ⟨a, b⟩ | ⟨a, b⟩
    · rw [if_neg (fun hn => hn a)]
      exact b
    · rw [if_pos a]
      exact b
/-- The beginning. -/
theorem w_start (L : List GOp) (f : Fall) (n : Nat) (d : St) (hs : d.secs = (Dsk.fresh 10).secs) (hu : d.up = true) (ha : d.acts = 0) (hf : d.falls = 0) (harm : d.arm = some (n, f)) : WInv L f 0 0 0 d :=
  ⟨Nat.le_refl _, Or.inl ⟨hu, fun n' f' h => by rw [harm] at h; injection h with h; injection h with _ h; exact h.symm, inv_start L _ d hs, Nat.le_refl _, by omega, hf⟩⟩
/-- The power goes, if it has not gone. -/
theorem w_crash {L : List GOp} {f : Fall} {k done wr : Nat} {d : St} (h : WInv L f k done wr d) :
    (Dsk.crash d f).2.up = false ∧ (Dsk.crash d f).2.acts ≤ k ∧ (Dsk.crash d f).2.falls ≤ 1 ∧ ∃ k0 n d0, k0 ≤ k ∧ Inv L k0 done n d0 ∧ (Dsk.crash d f).2.secs = Dsk.fallGo f 0 d0.secs := by
  rcases h.2 with hu | hd
  · have e : Dsk.crash d f = (0, Dsk.fall f d) := by unfold Dsk.crash; rw [if_neg (by rw [hu.up]; decide)]
    rw [e]
    exact ⟨rfl, hu.acts, by show d.falls + 1 ≤ 1; rw [hu.falls]; omega, k, _, d, Nat.le_refl _, hu.inv, rfl⟩
  · have e : Dsk.crash d f = (8, d) := by unfold Dsk.crash; rw [if_pos hd.up]
    rw [e]
    exact ⟨hd.up, hd.acts, hd.falls, hd.was⟩
end Grd
end Go.Proofs.YtjdklifkalnamaaGreatDoor

namespace Go.Proofs.YtjdklifkalnamaaGreatDoor
set_option linter.unusedVariables false

namespace Jrn
open Dsk (St Fall Sec)
theorem rs_put {d d' : St} {i : Nat} {p : T × Nat} (hd : d'.secs = d.secs.modify i fun x => ⟨x.sure, x.at_, some p⟩) : rs d' = rs d := by
  funext k
  unfold rs
  rw [hd, List.getElem?_modify]
  cases d.secs[k]? with
  | none => rfl
  | some x =>
    by_cases h : i = k
    · simp [h]
    · simp [h]
/-- A new sector is written. -/
theorem mid_write {b B : Nat} {P N : List Rec} {c : Nat} {d d' : St} (h : Mid b B P N c d) {w : T × Nat} (hw : (secs (lastL 7 P) N)[c]? = some w) {a : Nat}
    (hd : d'.secs = d.secs.modify (3 + usedL P + c) fun x => ⟨x.sure, x.at_, some (Grd.grd w.2 w.1, a)⟩) : Mid b B P N (c + 1) d' := by
  have hWl := secs_len' h
  have hcl := (List.getElem?_eq_some_iff.1 hw).1
  have hr := rs_put hd
  have hlen := h.len
  have hroom := h.room
  have hat : ∀ k : Nat, d'.secs[k]? = if 3 + usedL P + c = k then (d.secs[k]?).map (fun x => (⟨x.sure, x.at_, some (Grd.grd w.2 w.1, a)⟩ : Sec)) else d.secs[k]? := by
    intro k
    rw [hd, List.getElem?_modify]
    cases d.secs[k]? with
    | none => simp
    | some x =>
      by_cases e : 3 + usedL P + c = k
      · simp [e]
      · simp [e]
  have hsure : ∀ (k : Nat) (x : Sec), d'.secs[k]? = some x → ∃ y : Sec, d.secs[k]? = some y ∧ x.sure = y.sure ∧ (3 + usedL P + c ≠ k → x = y) := by
    intro k x hx
    rw [hat] at hx
    by_cases e : 3 + usedL P + c = k
    · rw [if_pos e] at hx
      cases hy : d.secs[k]? with
      | none => rw [hy] at hx; cases hx
      | some y =>
        rw [hy] at hx
        injection hx with hx
        subst hx
        exact ⟨y, rfl, rfl, fun hn => absurd e hn⟩
    · rw [if_neg e] at hx
      exact ⟨x, hx, rfl, fun _ => rfl⟩
  refine ⟨by rw [hd, List.length_modify]; exact hlen, h.b1, h.b2, h.B1, h.B2, h.pre, h.new, h.top, h.room, h.l0, by rw [hr]; exact h.agr, by rw [hr]; exact h.fin, by rw [hr]; exact h.old, ?_, ?_, by omega, ?_, ?_⟩
  · intro k x hx
    obtain ⟨y, h1, h2, _⟩ := hsure k x hx
    rw [h2]
    exact h.low1 k y h1
  · intro k x hk hx
    obtain ⟨y, h1, h2, _⟩ := hsure k x hx
    rw [h2]
    exact h.low0 k y hk h1
  · intro j v hj hv
    by_cases e : j = c
    · subst e
      rw [hw] at hv
      injection hv with hv
      subst hv
      refine ⟨⟨(d.secs[3 + usedL P + j]'(by omega)).sure, (d.secs[3 + usedL P + j]'(by omega)).at_, some (Grd.grd w.2 w.1, a)⟩, a, ?_, rfl⟩
      rw [hat, if_pos rfl, List.getElem?_eq_getElem (by omega)]
      rfl
    · obtain ⟨x, a', h1, h2⟩ := h.pend j v (by omega) hv
      exact ⟨x, a', by rw [hat, if_neg (by omega)]; exact h1, h2⟩
  · intro k x hx hk
    obtain ⟨y, h1, _, h3⟩ := hsure k x hx
    rw [h3 (by omega)]
    exact h.free k y h1 (by omega)
/-- A record more is meant. -/
theorem mid_more {b B : Nat} {P N : List Rec} {d : St} (h : Mid b B P N (usedL N) d) {q : Rec} (hq : RecOk B q) (ht : ∀ t ∈ q.2, t < (b + 1) * 4294967296) (hr : usedL P + usedL N + need q.1.length ≤ 60) : Mid b B P (N ++ [q]) (usedL N) d := by
  have hu : usedL (N ++ [q]) = usedL N + need q.1.length := by rw [usedL_append, usedL_cons]; rfl
  have hWl := secs_len' h
  refine ⟨h.len, h.b1, h.b2, h.B1, h.B2, h.pre, ?_, ?_, by omega, h.l0, h.agr, h.fin, h.old, h.low1, h.low0, by omega, ?_, h.free⟩
  · intro x hx
    rcases List.mem_append.1 hx with hx | hx
    · exact h.new x hx
    · rw [List.mem_singleton.1 hx]; exact hq
  · intro x hx
    rcases List.mem_append.1 hx with hx | hx
    · exact h.top x hx
    · rw [List.mem_singleton.1 hx]; exact ht
  · intro j w hj hw
    rw [secs_append, List.getElem?_append_left (by omega)] at hw
    exact h.pend j w hj hw
theorem secs_snoc (l : Nat) (N : List Rec) (q : Rec) : secs l (N ++ [q]) = secs l N ++ pays (lastL l N) q.1 q.2 := by
  rw [secs_append]
  show _ ++ (pays _ _ _ ++ []) = _
  rw [List.append_nil]
/-- All is flushed. -/
theorem mid_flush {b B B' : Nat} {P N : List Rec} {d d' : St} (h : Mid b B P N (usedL N) d) (hd : d'.secs = d.secs.map Dsk.flushed) (hB : B ≤ B') (hB2 : B' ≤ (b + 1) * 4294967296) (hN : ∀ q ∈ N, ∀ t ∈ q.2, t < B') : Mid b B' (P ++ N) [] 0 d' := by
  have hWl := secs_len' h
  have hPl := secs_len P 7 h.pre
  have hlen := h.len
  have hroom := h.room
  have hl0 := h.l0
  have hB1 := h.B1
  have hb2 := h.b2
  have hBB := h.B2
  have hu : usedL (P ++ N) = usedL P + usedL N := usedL_append P N
  have hin : ∀ (j : Nat) (w : T × Nat), (secs (lastL 7 P) N)[j]? = some w → ∃ (y : Sec) (a : Nat), d'.secs[3 + usedL P + j]? = some y ∧ y = ⟨Grd.grd w.2 w.1, a, none⟩ := by
    intro j w hw
    have := (List.getElem?_eq_some_iff.1 hw).1
    obtain ⟨x, a, h1, h2⟩ := h.pend j w (by omega) hw
    refine ⟨_, a, ?_, rfl⟩
    rw [hd, List.getElem?_map, h1]
    unfold Dsk.flushed
    simp [h2]
  have hout : ∀ (k : Nat), (k < 3 + usedL P ∨ 3 + usedL P + usedL N ≤ k) → d'.secs[k]? = d.secs[k]? := by
    intro k hk
    rw [hd, List.getElem?_map]
    cases hx : d.secs[k]? with
    | none => rfl
    | some x =>
      have := h.free k x hx hk
      unfold Dsk.flushed
      simp [this]
  have hcase : ∀ (k : Nat), (k < 3 + usedL P ∨ 3 + usedL P + usedL N ≤ k) ∨ ∃ (j : Nat) (w : T × Nat), k = 3 + usedL P + j ∧ (secs (lastL 7 P) N)[j]? = some w := by
    intro k
    by_cases hk : k < 3 + usedL P ∨ 3 + usedL P + usedL N ≤ k
    · exact Or.inl hk
    · right
      have hj : k - (3 + usedL P) < (secs (lastL 7 P) N).length := by omega
      exact ⟨k - (3 + usedL P), _, by omega, List.getElem?_eq_getElem hj⟩
  have hrs_out : ∀ (k : Nat), (k < 3 + usedL P ∨ 3 + usedL P + usedL N ≤ k) → rs d' k = rs d k := fun k hk => by unfold rs; rw [hout k hk]
  have hrs_in : ∀ (j : Nat) (w : T × Nat), (secs (lastL 7 P) N)[j]? = some w → rs d' (3 + usedL P + j) = (w.1, w.2, 0) := by
    intro j w hw
    obtain ⟨y, a, h1, rfl⟩ := hin j w hw
    obtain ⟨hb, hl, _, _⟩ := h.stamp (List.mem_of_getElem? hw)
    rw [rs_some h1]
    exact Grd.rd_grd hl hb.stm
  have hlast : lastL 7 (P ++ N) < B' ∧ (N = [] ∨ B ≤ lastL 7 (P ++ N)) := by
    rw [lastL_append]
    by_cases hn : N = []
    · subst hn
      exact ⟨by show lastL 7 P < B'; omega, Or.inl rfl⟩
    · obtain ⟨q, h1, h2⟩ := lastL_or N (lastL 7 P) (fun q hq => (h.new q hq).shp) hn
      exact ⟨hN q h1 _ h2, Or.inr ((h.new q h1).new _ h2).1⟩
  refine ⟨by rw [hd, List.length_map]; exact hlen, h.b1, h.b2, by omega, hB2, ?_, fun q hq => (by cases hq), fun q hq => (by cases hq), ?_, hlast.1, ?_, ?_, ?_, ?_, ?_, Nat.zero_le _, fun j w hj => absurd hj (Nat.not_lt_zero _), ?_⟩
  · intro q hq
    rcases List.mem_append.1 hq with hq | hq
    · exact h.pre q hq
    · exact (h.new q hq).shp
  · rw [hu]
    show usedL P + usedL N + 0 ≤ 60
    omega
  · intro k w hw
    rw [secs_append] at hw
    by_cases hk : k < (secs 7 P).length
    · rw [List.getElem?_append_left hk] at hw
      rw [hrs_out (3 + k) (by omega)]
      exact h.agr k w hw
    · rw [List.getElem?_append_right (by omega)] at hw
      have := hrs_in _ w hw
      rw [show 3 + usedL P + (k - (secs 7 P).length) = 3 + k by omega] at this
      exact this
  · rw [hu]
    rcases hlast.2 with hn | hn
    · subst hn
      have he : ∀ k, rs d' k = rs d k := fun k => hrs_out k (by show k < 3 + usedL P ∨ 3 + usedL P + 0 ≤ k; omega)
      have hf := h.fin
      rw [show rs d' = rs d from funext he, List.append_nil]
      exact hf
    · refine one_old (B := B) ?_ hn (by have := hlast.1; omega)
      rw [hrs_out _ (by omega)]
      exact h.old _
  · intro k
    rcases hcase k with hk | ⟨j, w, rfl, hw⟩
    · rw [hrs_out k hk]
      intro hc
      obtain ⟨a1, a2⟩ := h.old k hc
      exact ⟨by omega, by omega⟩
    · rw [hrs_in j w hw]
      intro _
      have hm := List.mem_of_getElem? hw
      obtain ⟨q, hq1, hq2⟩ := (secs_data N _ w hm).2
      refine ⟨hN q hq1 _ hq2, ?_⟩
      refine linked_lnk (top := B') _ _ h.linked (by omega) (fun v hv => ?_) w hm
      obtain ⟨q', e1, e2⟩ := (secs_data N _ v hv).2
      exact hN q' e1 _ e2
  · intro k x hx
    rcases hcase k with hk | ⟨j, w, rfl, hw⟩
    · rw [hout k hk] at hx
      exact h.low1 k x hx
    · obtain ⟨y, a, h1, rfl⟩ := hin j w hw
      rw [h1] at hx
      injection hx with hx
      subst hx
      obtain ⟨hb, hl, _, _⟩ := h.stamp (List.mem_of_getElem? hw)
      exact Grd.grd_low hl hb
  · intro k x hk hx
    rw [hu] at hk
    rw [hout k (by omega)] at hx
    exact h.low0 k x (by omega) hx
  · intro k x hx _
    rcases hcase k with hk | ⟨j, w, rfl, hw⟩
    · rw [hout k hk] at hx
      exact h.free k x hx hk
    · obtain ⟨y, a, h1, rfl⟩ := hin j w hw
      rw [h1] at hx
      injection hx with hx
      subst hx
      rfl
/-- **OPENED AGAIN: WHAT LASTED, AND PERHAPS SOME OF WHAT CAME BEHIND.** -/
theorem lost_open {b B : Nat} {P N : List Rec} {d d' : St} (h : Lost b B P N d) (hb : b + 1 ≤ 255) (hd : d'.secs = d.secs) :
    ∃ (j : Nat) (L' : List Rec), j ≤ N.length ∧ L'.map Prod.fst = (P ++ N.take j).map Prod.fst ∧ parse (rs d') 61 3 60 7 = (L'.map Prod.fst, usedL L', lastL 7 L') ∧ Mid (b + 1) ((b + 1) * 4294967296) L' [] 0 d' := by
  have hr : rs d' = rs d := by funext k; unfold rs; rw [hd]
  rw [hr]
  obtain ⟨r0, hC, ho⟩ := h.was
  have hroom := h.room
  have hPn := len_used P
  have hNn := len_used N
  have hl0 := h.l0
  have hB2 := h.B2
  have hb1 := h.b1
  obtain ⟨fu, hfu⟩ : ∃ fu, 61 = P.length + fu := ⟨61 - P.length, by omega⟩
  have h1 := parse_pre P 3 60 7 fu h.pre h.agr (by omega)
  obtain ⟨j, hj, h2, h3⟩ := parse_new (B := B) (r := rs d) (r0 := r0) (by omega) N (3 + usedL P) (60 - usedL P) (lastL 7 P) fu h.new (by omega) hC (Or.inr ho) (by omega) (by omega)
  obtain ⟨L', g1, g2, g3, g4⟩ := parse_there (r := rs d) 61 3 60 7
  have hend := parse_end (r := rs d) 61 3 60 7 (by omega)
  rw [g2] at hend
  have hdata : L'.map Prod.fst = (P ++ N.take j).map Prod.fst := by
    have e : (parse (rs d) 61 3 60 7).1 = L'.map Prod.fst := by rw [g2]
    rw [← e, hfu, h1, h2, List.map_append]
  refine ⟨j, L', hj, hdata, g2, ?_⟩
  refine ⟨by rw [hd]; exact h.len, by omega, hb, Nat.le_refl _, by omega, g1, fun q hq => (by cases hq), fun q hq => (by cases hq), by show usedL L' + 0 ≤ 60; omega, ?_, by rw [hr]; exact g3, by rw [hr]; exact hend, by rw [hr]; exact h.old, ?_, ?_, Nat.le_refl _, fun k w hk => absurd hk (Nat.not_lt_zero _), ?_⟩
  · exact last_read g1 g3 h.old (by omega)
  · intro k x hx
    rw [hd] at hx
    exact (h.low1 k x hx).mono (by omega)
  · intro k x _ hx
    rw [hd] at hx
    exact h.low1 k x hx
  · intro k x hx _
    rw [hd] at hx
    exact h.free k x hx
end Jrn
end Go.Proofs.YtjdklifkalnamaaGreatDoor

namespace Go.Proofs.YtjdklifkalnamaaGreatDoor
set_option linter.unusedVariables false

namespace Jrn
open Dsk (St Fall Sec)
/-- One after another sectors are put; the first that fails ends it. -/
def putAll (b : Nat) : List T → Int → Nat → St → Int × Nat × St
  | [], _, wn, d => (0, wn, d)
  | x :: xs, i, wn, d => if (Grd.put b wn d i x).2.1 ≠ 0 then ((Grd.put b wn d i x).2.1, (Grd.put b wn d i x).2.2.1, (Grd.put b wn d i x).2.2.2)
    else putAll b xs (i + 1) (Grd.put b wn d i x).2.2.1 (Grd.put b wn d i x).2.2.2
theorem act_cases (d : St) : ((Dsk.act d).1 = false ∧ ∃ f, (Dsk.act d).2 = Dsk.fall f d) ∨ ((Dsk.act d).1 = true ∧ (Dsk.act d).2.secs = d.secs ∧ (Dsk.act d).2.up = d.up ∧ (Dsk.act d).2.acts = d.acts + 1 ∧ (Dsk.act d).2.falls = d.falls) := by
  unfold Dsk.act
  split
  · exact Or.inl ⟨rfl, _, rfl⟩
  · exact Or.inr ⟨rfl, rfl, rfl, rfl, rfl⟩
  · exact Or.inr ⟨rfl, rfl, rfl, rfl, rfl⟩
/-- The beginning: a new disk. -/
theorem mid_new : Mid 1 4294967296 [] [] 0 (Dsk.fresh 64) := by
  have hat : ∀ (k : Nat) (x : Sec), (Dsk.fresh 64).secs[k]? = some x → x = ⟨Grd.noughts, 0, none⟩ := by
    intro k x hx
    have hx' : (List.replicate 64 (⟨List.replicate 64 0, 0, none⟩ : Sec))[k]? = some x := hx
    rw [List.getElem?_replicate] at hx'
    split at hx'
    · injection hx' with hx'
      exact hx'.symm
    · cases hx'
  have hrs : ∀ k, (rs (Dsk.fresh 64) k).2.2 ≠ 0 := by
    intro k
    unfold rs
    split
    · rename_i x hx
      rw [hat k x hx, Grd.rd_noughts]
      decide
    · decide
  refine ⟨List.length_replicate, by decide, by decide, by decide, by decide, fun q hq => (by cases hq), fun q hq => (by cases hq), fun q hq => (by cases hq), by decide, by decide, fun k w hw => (by simp [secs] at hw), ?_, fun k hc => absurd hc (hrs k), ?_, ?_, Nat.le_refl _, fun j w hj => absurd hj (Nat.not_lt_zero _), ?_⟩
  · unfold one
    rw [if_neg]
    rintro ⟨_, h2, _⟩
    exact hrs _ h2
  · intro k x hx
    rw [hat k x hx]
    exact Grd.noughts_low (by decide)
  · intro k x _ hx
    rw [hat k x hx]
    exact Grd.noughts_low (by decide)
  · intro k x hx _
    rw [hat k x hx]
/-- Sectors are put, or the power goes. -/
theorem mid_puts {b B : Nat} {P N : List Rec} : ∀ (ws : List (T × Nat)) (c wn : Nat) (d : St), Mid b B P N c d → d.up = true → (secs (lastL 7 P) N).drop c = ws → (∀ i w, ws[i]? = some w → w.2 = Grd.stamp b (wn + i)) → wn + ws.length ≤ 4294967295 →
    ((putAll b (ws.map Prod.fst) ((3 + usedL P + c : Nat) : Int) wn d).1 = 0 ∧ (putAll b (ws.map Prod.fst) ((3 + usedL P + c : Nat) : Int) wn d).2.1 = wn + ws.length ∧ (putAll b (ws.map Prod.fst) ((3 + usedL P + c : Nat) : Int) wn d).2.2.up = true ∧
      (putAll b (ws.map Prod.fst) ((3 + usedL P + c : Nat) : Int) wn d).2.2.acts = d.acts + ws.length ∧ (putAll b (ws.map Prod.fst) ((3 + usedL P + c : Nat) : Int) wn d).2.2.falls = d.falls ∧ Mid b B P N (c + ws.length) (putAll b (ws.map Prod.fst) ((3 + usedL P + c : Nat) : Int) wn d).2.2) ∨
    ((putAll b (ws.map Prod.fst) ((3 + usedL P + c : Nat) : Int) wn d).1 = 8 ∧ (putAll b (ws.map Prod.fst) ((3 + usedL P + c : Nat) : Int) wn d).2.2.up = false ∧
      (putAll b (ws.map Prod.fst) ((3 + usedL P + c : Nat) : Int) wn d).2.2.acts ≤ d.acts + ws.length ∧ (putAll b (ws.map Prod.fst) ((3 + usedL P + c : Nat) : Int) wn d).2.2.falls = d.falls + 1 ∧ Lost b B P N (putAll b (ws.map Prod.fst) ((3 + usedL P + c : Nat) : Int) wn d).2.2) := by
  intro ws
  induction ws with
  | nil => intro c wn d h hu _ _ _; exact Or.inl ⟨rfl, rfl, hu, rfl, rfl, h⟩
  | cons w ws ih =>
    intro c wn d h hu hdrop hst hwn
    have hlen := h.len
    have hroom := h.room
    have hWl := secs_len' h
    have hcl : c < (secs (lastL 7 P) N).length := by
      refine Classical.byContradiction fun hc => ?_
      rw [List.drop_eq_nil_of_le (by omega)] at hdrop
      cases hdrop
    have hw : (secs (lastL 7 P) N)[c]? = some w := by
      rw [List.drop_eq_getElem_cons hcl] at hdrop
      injection hdrop with hdrop _
      rw [List.getElem?_eq_getElem hcl, hdrop]
    have hnext : (secs (lastL 7 P) N).drop (c + 1) = ws := by
      rw [List.drop_eq_getElem_cons hcl] at hdrop
      injection hdrop
    have hw2 : w.2 = Grd.stamp b wn := hst 0 w rfl
    have hs := h.stamp (List.mem_of_getElem? hw)
    rw [List.length_cons] at hwn
    show ((if (Grd.put b wn d ((3 + usedL P + c : Nat) : Int) w.1).2.1 ≠ 0 then _ else _ : Int × Nat × St).1 = 0 ∧ _) ∨ _
    have hp0 : putAll b ((w :: ws).map Prod.fst) ((3 + usedL P + c : Nat) : Int) wn d = if (Grd.put b wn d ((3 + usedL P + c : Nat) : Int) w.1).2.1 ≠ 0 then ((Grd.put b wn d ((3 + usedL P + c : Nat) : Int) w.1).2.1, (Grd.put b wn d ((3 + usedL P + c : Nat) : Int) w.1).2.2.1, (Grd.put b wn d ((3 + usedL P + c : Nat) : Int) w.1).2.2.2)
      else putAll b (ws.map Prod.fst) (((3 + usedL P + c : Nat) : Int) + 1) (Grd.put b wn d ((3 + usedL P + c : Nat) : Int) w.1).2.2.1 (Grd.put b wn d ((3 + usedL P + c : Nat) : Int) w.1).2.2.2 := rfl
    have hW : Dsk.write d ((3 + usedL P + c : Nat) : Int) (Grd.grd w.2 w.1) = if (Dsk.act d).1 = false then (8, (Dsk.act d).2) else (0, Dsk.put (Dsk.act d).2 (3 + usedL P + c) (Grd.grd w.2 w.1)) := by
      unfold Dsk.write
      rw [if_neg (by rw [hu]; decide), if_neg (by omega), if_neg (by rw [Grd.grd_len hs.2.1]; decide), Int.toNat_natCast]
    have hP : Grd.put b wn d ((3 + usedL P + c : Nat) : Int) w.1 = if (Dsk.write d ((3 + usedL P + c : Nat) : Int) (Grd.grd w.2 w.1)).1 ≠ 0 then (0, (Dsk.write d ((3 + usedL P + c : Nat) : Int) (Grd.grd w.2 w.1)).1, wn, (Dsk.write d ((3 + usedL P + c : Nat) : Int) (Grd.grd w.2 w.1)).2)
        else ((Grd.stamp b wn : Int), 0, wn + 1, (Dsk.write d ((3 + usedL P + c : Nat) : Int) (Grd.grd w.2 w.1)).2) := by
      rw [hw2]
      unfold Grd.put
      rw [if_neg (by have := hs.2.1; omega), if_neg (by omega)]
    rw [show (if (Grd.put b wn d ((3 + usedL P + c : Nat) : Int) w.1).2.1 ≠ 0 then _ else _ : Int × Nat × St) = putAll b ((w :: ws).map Prod.fst) ((3 + usedL P + c : Nat) : Int) wn d from hp0.symm]
    rcases act_cases d with ⟨a1, f, a2⟩ | ⟨a1, a2, a3, a4, a5⟩
    · right
      rw [if_pos a1] at hW
      rw [hW, if_pos (show (8 : Int) ≠ 0 by decide)] at hP
      rw [hP, if_pos (show (8 : Int) ≠ 0 by decide)] at hp0
      rw [hp0, a2]
      exact ⟨rfl, rfl, by show d.acts ≤ _; omega, rfl, mid_fall h f rfl⟩
    · rw [if_neg (by rw [a1]; decide)] at hW
      rw [hW, if_neg (by simp)] at hP
      rw [hP, if_neg (by simp)] at hp0
      dsimp only at hp0
      have hm := mid_write (d' := Dsk.put (Dsk.act d).2 (3 + usedL P + c) (Grd.grd w.2 w.1)) h hw (a := (Dsk.act d).2.acts) (by
        show (Dsk.act d).2.secs.modify _ _ = _
        rw [a2])
      have hi := ih (c + 1) (wn + 1) (Dsk.put (Dsk.act d).2 (3 + usedL P + c) (Grd.grd w.2 w.1)) hm (by show (Dsk.act d).2.up = true; rw [a3]; exact hu) hnext (fun i v hv => by
        have := hst (i + 1) v hv
        rw [this]
        congr 1
        omega) (by omega)
      have e1 : ((3 + usedL P + c : Nat) : Int) + 1 = ((3 + usedL P + (c + 1) : Nat) : Int) := by omega
      have hac : (Dsk.put (Dsk.act d).2 (3 + usedL P + c) (Grd.grd w.2 w.1)).acts = d.acts + 1 := a4
      have hfl : (Dsk.put (Dsk.act d).2 (3 + usedL P + c) (Grd.grd w.2 w.1)).falls = d.falls := a5
      rw [e1] at hp0
      rw [hp0, List.length_cons]
      rcases hi with ⟨i1, i2, i3, i4, i5, i6⟩ | ⟨i1, i2, i3, i4, i5⟩
      · left
        refine ⟨i1, by omega, i3, by omega, by omega, ?_⟩
        rw [show c + (ws.length + 1) = c + 1 + ws.length by omega]
        exact i6
      · right
        exact ⟨i1, i2, by omega, by omega, i5⟩
/-- A journal within the start b, whose guard has written wn sectors: the records P last, the records N came behind. -/
structure JUp (b wn : Nat) (P N : List Rec) (d : St) : Prop where
  up : d.up = true
  mid : ∃ B, Mid b B P N (usedL N) d ∧ B ≤ b * 4294967296 + wn + 1 ∧ ∀ q ∈ N, ∀ t ∈ q.2, t < b * 4294967296 + wn + 1
  wn : wn ≤ usedL P + usedL N
/-- The power has gone. -/
structure JDown (b : Nat) (P N : List Rec) (d : St) : Prop where
  up : d.up = false
  lost : ∃ B, Lost b B P N d
/-- The stamps of the next n sectors. -/
def stamps (b wn n : Nat) : List Nat := (List.range n).map fun i => Grd.stamp b (wn + i)
theorem stamps_len (b wn n : Nat) : (stamps b wn n).length = n := by unfold stamps; simp
theorem stamps_mem {b wn n t : Nat} (h : t ∈ stamps b wn n) : b * 4294967296 + wn + 1 ≤ t ∧ t < b * 4294967296 + (wn + n) + 1 := by
  unfold stamps at h
  obtain ⟨i, hi, rfl⟩ := List.mem_map.1 h
  have := List.mem_range.1 hi
  unfold Grd.stamp
  omega
theorem pays2_stamps : ∀ (ts : List Nat) (l : Nat) (t : T), (pays2 l t ts).map Prod.snd = ts := by
  intro ts
  induction ts with
  | nil => intro l t; rfl
  | cons s ts ih => intro l t; show s :: _ = s :: ts; rw [ih]
theorem pays_stamps (ts : List Nat) (l : Nat) (s : T) : (pays l s ts).map Prod.snd = ts := by
  cases ts with
  | nil => rfl
  | cons a ts => show a :: _ = a :: ts; rw [pays2_stamps]
/-- The data of a record's sectors. -/
def datas (link : Nat) (s : T) (b wn : Nat) : List T := (pays link s (stamps b wn (need s.length))).map Prod.fst
theorem JUp.used {b wn : Nat} {P N : List Rec} {d : St} (h : JUp b wn P N d) : usedL P + usedL N ≤ 60 := by
  obtain ⟨B, hm, _⟩ := h.mid
  exact hm.room
/-- **A RECORD IS APPENDED, OR THE POWER GOES.** -/
theorem j_append {b wn : Nat} {P N : List Rec} {d : St} (h : JUp b wn P N d) {s : T} (hs : s.length ≤ 6000) (hr : usedL P + usedL N + need s.length ≤ 60) :
    ∀ r, r = putAll b (datas (lastL 7 (P ++ N)) s b wn) ((3 + (usedL P + usedL N) : Nat) : Int) wn d →
    (r.1 = 0 ∧ r.2.1 = wn + need s.length ∧ r.2.2.acts = d.acts + need s.length ∧ r.2.2.falls = d.falls ∧ JUp b (wn + need s.length) P (N ++ [(s, stamps b wn (need s.length))]) r.2.2) ∨
    (r.1 = 8 ∧ r.2.2.acts ≤ d.acts + need s.length ∧ r.2.2.falls = d.falls + 1 ∧ JDown b P (N ++ [(s, stamps b wn (need s.length))]) r.2.2) := by
  rintro r rfl
  obtain ⟨B, hm, hB, hts⟩ := h.mid
  have hwn := h.wn
  have hb1 := hm.b1
  have hb2 := hm.b2
  have hB1 := hm.B1
  have hq : RecOk B (s, stamps b wn (need s.length)) := ⟨hs, stamps_len .., fun t ht => by
    have := stamps_mem ht
    omega⟩
  have hmore := mid_more hm hq (fun t ht => by
    have := stamps_mem ht
    omega) hr
  have hu : usedL (N ++ [(s, stamps b wn (need s.length))]) = usedL N + need s.length := by rw [usedL_append, usedL_cons]; rfl
  have hWl := secs_len' hm
  have hdrop : (secs (lastL 7 P) (N ++ [(s, stamps b wn (need s.length))])).drop (usedL N) = pays (lastL 7 (P ++ N)) s (stamps b wn (need s.length)) := by
    rw [secs_snoc, lastL_append, ← hWl, List.drop_left]
  have hpl : (pays (lastL 7 (P ++ N)) s (stamps b wn (need s.length))).length = need s.length := by rw [pays_len, stamps_len]
  have hst : ∀ i w, (pays (lastL 7 (P ++ N)) s (stamps b wn (need s.length)))[i]? = some w → w.2 = Grd.stamp b (wn + i) := by
    intro i w hw
    have e := congrArg (fun l => l[i]?) (pays_stamps (stamps b wn (need s.length)) (lastL 7 (P ++ N)) s)
    have hi := (List.getElem?_eq_some_iff.1 hw).1
    simp only [List.getElem?_map, hw, Option.map_some] at e
    unfold stamps at e
    rw [List.getElem?_map, List.getElem?_range (by omega)] at e
    injection e
  have hp := mid_puts _ (usedL N) wn d hmore h.up hdrop hst (by omega)
  rw [hpl] at hp
  unfold datas
  rw [show 3 + (usedL P + usedL N) = 3 + usedL P + usedL N by omega]
  rcases hp with ⟨p1, p2, p3, p4, p5, p6⟩ | ⟨p1, p2, p3, p4, p5⟩
  · left
    refine ⟨p1, p2, p4, p5, p3, ⟨B, by rw [hu]; exact p6, by omega, ?_⟩, by rw [hu]; omega⟩
    intro q hq t ht
    rcases List.mem_append.1 hq with hq | hq
    · have := hts q hq t ht
      omega
    · rw [List.mem_singleton.1 hq] at ht
      have := stamps_mem ht
      omega
  · right
    exact ⟨p1, p3, p4, p2, B, p5⟩
/-- **ALL IS FLUSHED, OR THE POWER GOES.** -/
theorem j_flush {b wn : Nat} {P N : List Rec} {d : St} (h : JUp b wn P N d) :
    ((Dsk.flush d).1 = 0 ∧ (Dsk.flush d).2.acts = d.acts + 1 ∧ (Dsk.flush d).2.falls = d.falls ∧ JUp b wn (P ++ N) [] (Dsk.flush d).2) ∨ ((Dsk.flush d).1 = 8 ∧ (Dsk.flush d).2.acts ≤ d.acts + 1 ∧ (Dsk.flush d).2.falls = d.falls + 1 ∧ JDown b P N (Dsk.flush d).2) := by
  obtain ⟨B, hm, hB, hts⟩ := h.mid
  have hwn := h.wn
  have hroom := hm.room
  have e : Dsk.flush d = if (Dsk.act d).1 = false then (8, (Dsk.act d).2) else (0, { (Dsk.act d).2 with secs := (Dsk.act d).2.secs.map Dsk.flushed }) := by
    unfold Dsk.flush
    rw [if_neg (by rw [h.up]; decide)]
  rcases act_cases d with ⟨a1, f, a2⟩ | ⟨a1, a2, a3, a4, a5⟩
  · right
    rw [e, if_pos a1, a2]
    exact ⟨rfl, by show d.acts ≤ d.acts + 1; omega, rfl, rfl, B, mid_fall hm f rfl⟩
  · left
    rw [e, if_neg (by rw [a1]; decide)]
    refine ⟨rfl, a4, a5, by show (Dsk.act d).2.up = true; rw [a3]; exact h.up, ⟨b * 4294967296 + wn + 1, ?_, Nat.le_refl _, fun q hq => (by cases hq)⟩, by rw [usedL_append]; show wn ≤ usedL P + usedL N + 0; omega⟩
    exact mid_flush hm (by show (Dsk.act d).2.secs.map _ = _; rw [a2]) hB (by omega) hts
/-- The power goes. -/
theorem j_fall {b wn : Nat} {P N : List Rec} {d : St} (h : JUp b wn P N d) (f : Fall) : JDown b P N (Dsk.fall f d) := by
  obtain ⟨B, hm, _⟩ := h.mid
  exact ⟨rfl, B, mid_fall hm f rfl⟩
/-- **OPENED AGAIN BY THE NEXT START.** -/
theorem j_open {b : Nat} {P N : List Rec} {d d' : St} (h : JDown b P N d) (hb : b + 1 ≤ 255) (hd : d'.secs = d.secs) (hu : d'.up = true) :
    ∃ (j : Nat) (L' : List Rec), j ≤ N.length ∧ L'.map Prod.fst = (P ++ N.take j).map Prod.fst ∧ parse (rs d') 61 3 60 7 = (L'.map Prod.fst, usedL L', lastL 7 L') ∧ JUp (b + 1) 0 L' [] d' := by
  obtain ⟨B, hl⟩ := h.lost
  obtain ⟨j, L', h1, h2, h3, h4⟩ := lost_open hl hb hd
  exact ⟨j, L', h1, h2, h3, hu, ⟨(b + 1) * 4294967296, h4, by omega, fun q hq => (by cases hq)⟩, Nat.zero_le _⟩
/-- The first journal. -/
theorem j_new : JUp 1 0 [] [] (Dsk.fresh 64) := ⟨rfl, ⟨4294967296, mid_new, by decide, fun q hq => (by cases hq)⟩, Nat.zero_le _⟩
/-- A loss that is armed, or is called off, is nothing to the journal. -/
theorem j_same {b wn : Nat} {P N : List Rec} {d d' : St} (h : JUp b wn P N d) (hs : d'.secs = d.secs) (hu : d'.up = true) : JUp b wn P N d' := by
  obtain ⟨B, hm, hB, hts⟩ := h.mid
  have hr : rs d' = rs d := by funext k; unfold rs; rw [hs]
  refine ⟨hu, ⟨B, ⟨by rw [hs]; exact hm.len, hm.b1, hm.b2, hm.B1, hm.B2, hm.pre, hm.new, hm.top, hm.room, hm.l0, by rw [hr]; exact hm.agr, by rw [hr]; exact hm.fin, by rw [hr]; exact hm.old, ?_, ?_, hm.cle, ?_, ?_⟩, hB, hts⟩, h.wn⟩
  · intro k x hx; rw [hs] at hx; exact hm.low1 k x hx
  · intro k x hk hx; rw [hs] at hx; exact hm.low0 k x hk hx
  · intro j w hj hw; rw [hs]; exact hm.pend j w hj hw
  · intro k x hx hk; rw [hs] at hx; exact hm.free k x hx hk
end Jrn
end Go.Proofs.YtjdklifkalnamaaGreatDoor

namespace Go.Proofs.YtjdklifkalnamaaGreatDoor
set_option linter.unusedVariables false

namespace Jrn
open Grd (eight num8 num8_eight eight_len)
/-- A number in two bytes. -/
def be2 (n : Nat) : T := [UInt8.ofNat (n / 256), UInt8.ofNat n]
/-- Cut into pieces of 38. -/
def cuts : Nat → T → List T
  | 0, t => [t]
  | n + 1, t => t.take 38 :: cuts n (t.drop 38)
/-- What a record's sectors have behind their links. -/
def parts (s : T) : List T := cuts (need s.length - 1) (be2 s.length ++ s)
/-- What stands ahead of part k. -/
def sc (k link : Nat) : T := (if k = 0 then 1 else 2) :: eight link
theorem sc_len (k link : Nat) : (sc k link).length = 9 := by unfold sc; rw [List.length_cons, eight_len]
theorem cuts_len : ∀ (n : Nat) (t : T), (cuts n t).length = n + 1 := by
  intro n
  induction n with
  | zero => intro t; rfl
  | succ n ih => intro t; unfold cuts; rw [List.length_cons, ih]
theorem parts_len (s : T) : (parts s).length = need s.length := by
  have := need_pos s.length
  unfold parts
  rw [cuts_len]
  omega
theorem cuts_flat : ∀ (n : Nat) (t : T), (cuts n t).flatten = t := by
  intro n
  induction n with
  | zero => intro t; simp [cuts]
  | succ n ih => intro t; unfold cuts; rw [List.flatten_cons, ih, List.take_append_drop]
theorem parts_flat (s : T) : (parts s).flatten = be2 s.length ++ s := cuts_flat _ _
/-- Part k of a record. -/
theorem cuts_get : ∀ (n : Nat) (t : T) (k : Nat) (h : k < (cuts n t).length), (cuts n t)[k]'h = if k < n then (t.drop (38 * k)).take 38 else t.drop (38 * k) := by
  intro n
  induction n with
  | zero =>
    intro t k h
    have hk : k = 0 := by rw [cuts_len] at h; omega
    subst hk
    rw [if_neg (by omega)]
    rfl
  | succ n ih =>
    intro t k h
    cases k with
    | zero =>
      rw [if_pos (by omega)]
      rfl
    | succ k =>
      have h' : k < (cuts n (t.drop 38)).length := by rw [cuts_len] at h ⊢; omega
      have e : (cuts (n + 1) t)[k + 1]'h = (cuts n (t.drop 38))[k]'h' := rfl
      rw [e, ih]
      have e2 : (t.drop 38).drop (38 * k) = t.drop (38 * (k + 1)) := by
        rw [List.drop_drop]
        congr 1
        omega
      rw [e2]
      by_cases hk : k < n
      · rw [if_pos hk, if_pos (by omega)]
      · rw [if_neg hk, if_neg (by omega)]
/-- The part that is read as number k. -/
def readP (r : Nat → X) (at_ left k link : Nat) : Option (T × Nat) :=
  if k < left ∧ (r (at_ + k)).1.take 9 = sc k link then some ((r (at_ + k)).1.drop 9, (r (at_ + k)).2.1) else none
/-- The parts from number k on. -/
def gotP (r : Nat → X) (at_ left : Nat) : Nat → Nat → Nat → Option (List T × List Nat)
  | 0, _, _ => some ([], [])
  | n + 1, k, link => match readP r at_ left k link with
    | none => none
    | some q => (gotP r at_ left n (k + 1) q.2).map fun x => (q.1 :: x.1, q.2 :: x.2)
/-- The record that is read. -/
def nextP (r : Nat → X) (at_ left link : Nat) : Option (T × List Nat) :=
  match readP r at_ left 0 link with
  | none => none
  | some q => if q.1.length < 2 then none else
    match gotP r at_ left (need (num8 (q.1.take 2)) - 1) 1 q.2 with
    | none => none
    | some x => if 6000 < num8 (q.1.take 2) ∨ parts ((q.1 :: x.1).flatten.drop 2) ≠ q.1 :: x.1 then none
      else some ((q.1 :: x.1).flatten.drop 2, q.2 :: x.2)
/-- What sectors have: no more than a guard's room; data are guarded. -/
structure Room (r : Nat → X) : Prop where
  len : ∀ k, (r k).1.length ≤ 47
  ok : ∀ k, (r k).1 ≠ [] → (r k).2.2 = 0
theorem readP_some {r : Nat → X} {at_ left k link : Nat} {q : T × Nat} (hr : Room r) (h : readP r at_ left k link = some q) :
    k < left ∧ r (at_ + k) = (sc k link ++ q.1, q.2, 0) ∧ q.1.length ≤ 38 := by
  unfold readP at h
  split at h
  · rename_i hc
    injection h with h
    subst h
    have hl := hr.len (at_ + k)
    have hne : (r (at_ + k)).1 ≠ [] := by
      intro e
      have := hc.2
      rw [e] at this
      have h9 := congrArg List.length this
      rw [sc_len] at h9
      simp at h9
    have h0 := hr.ok _ hne
    refine ⟨hc.1, ?_, by rw [List.length_drop]; omega⟩
    have e1 : sc k link ++ (r (at_ + k)).1.drop 9 = (r (at_ + k)).1 := by rw [← hc.2, List.take_append_drop]
    rw [e1, ← h0]
  · cases h
theorem readP_of {r : Nat → X} {at_ left k link : Nat} {p : T} {st : Nat} (hk : k < left) (h : r (at_ + k) = (sc k link ++ p, st, 0)) : readP r at_ left k link = some (p, st) := by
  unfold readP
  rw [h]
  dsimp only
  rw [if_pos ⟨hk, List.take_left' (sc_len k link)⟩, List.drop_left' (sc_len k link)]
theorem piece2_sc {k : Nat} (hk : k ≠ 0) (link : Nat) (t : T) : piece2 link t = sc k link ++ t.take 38 := by
  unfold piece2 sc
  rw [if_neg hk]
  rfl
theorem piece1_sc (link : Nat) (s : T) : piece1 link s = sc 0 link ++ (be2 s.length ++ s.take 36) := rfl
/-- The parts behind the first, as they were written. -/
theorem gotP_of {r : Nat → X} {at_ left : Nat} : ∀ (ts : List Nat) (k link : Nat) (t : T), k ≠ 0 → ts ≠ [] → k + ts.length ≤ left → Agree r (at_ + k) (pays2 link t ts) → t.length ≤ 38 * ts.length →
    gotP r at_ left ts.length k link = some (cuts (ts.length - 1) t, ts) := by
  intro ts
  induction ts with
  | nil => intro k link t _ h; exact absurd rfl h
  | cons st ts ih =>
    intro k link t hk _ hle ha hl
    rw [List.length_cons] at hle
    unfold pays2 at ha
    have h0 := ha.head
    have hrd : readP r at_ left k link = some (t.take 38, st) := readP_of (by omega) (by rw [h0, piece2_sc hk])
    show gotP r at_ left (ts.length + 1) k link = _
    unfold gotP
    rw [hrd]
    dsimp only
    cases ts with
    | nil =>
      show (gotP r at_ left 0 (k + 1) st).map _ = _
      unfold gotP
      rw [List.length_cons, List.length_nil] at hl
      show some ([t.take 38], [st]) = some ([t], [st])
      rw [List.take_of_length_le (by omega)]
    | cons st2 ts =>
      have ht := ha.tail
      rw [show at_ + k + 1 = at_ + (k + 1) by omega] at ht
      have hi := ih (k + 1) st (t.drop 38) (by omega) (by simp) (by rw [List.length_cons] at hle ⊢; omega) ht (by
        rw [List.length_drop]
        rw [List.length_cons] at hl
        omega)
      rw [hi]
      rfl
theorem num8_be2 {n : Nat} (h : n < 65536) : num8 (be2 n) = n := by
  unfold be2 num8
  simp only [List.foldl_cons, List.foldl_nil, UInt8.toNat_ofNat']
  omega
theorem num8_be2_le (n : Nat) : num8 (be2 n) = n % 65536 := by
  unfold be2 num8
  simp only [List.foldl_cons, List.foldl_nil, UInt8.toNat_ofNat']
  omega
theorem be2_len (n : Nat) : (be2 n).length = 2 := rfl
theorem parts_cons (s : T) : ∃ ps, parts s = (be2 s.length ++ s.take 36) :: ps ∧ (ps = [] ↔ need s.length = 1) ∧ (need s.length ≠ 1 → ps = cuts (need s.length - 2) (s.drop 36)) := by
  have hp := need_pos s.length
  unfold parts
  by_cases h1 : need s.length = 1
  · have hl : s.length ≤ 36 := by unfold need at h1; omega
    refine ⟨[], ?_, by simp [h1], fun h => absurd h1 h⟩
    rw [h1]
    show [be2 s.length ++ s] = _
    rw [List.take_of_length_le hl]
  · obtain ⟨m, hm⟩ : ∃ m, need s.length - 1 = m + 1 := ⟨need s.length - 2, by omega⟩
    have hm2 : need s.length - 2 = m := by omega
    refine ⟨cuts m (s.drop 36), ?_, ?_, fun _ => by rw [hm2]⟩
    · rw [hm]
      show (be2 s.length ++ s).take 38 :: cuts m ((be2 s.length ++ s).drop 38) = _
      have e1 : (be2 s.length ++ s).take 38 = be2 s.length ++ s.take 36 := by
        rw [List.take_append, be2_len, List.take_of_length_le (by rw [be2_len]; omega)]
      have e2 : (be2 s.length ++ s).drop 38 = s.drop 36 := by
        rw [List.drop_append, be2_len, List.drop_eq_nil_of_le (by rw [be2_len]; omega), List.nil_append]
      rw [e1, e2]
    · constructor
      · intro e
        have := congrArg List.length e
        rw [cuts_len] at this
        simp at this
      · intro e; exact absurd e h1
/-- **WHAT WAS WRITTEN IS READ.** -/
theorem nextP_of {r : Nat → X} {at_ left link : Nat} {s : T} {ts : List Nat} (hS : Shp (s, ts)) (ha : Agree r at_ (pays link s ts)) (hl : need s.length ≤ left) : nextP r at_ left link = some (s, ts) := by
  have hsh : s.length ≤ 6000 := hS.short
  have hcn : ts.length = need s.length := hS.cnt
  have hnp := need_pos s.length
  cases ts with
  | nil => rw [List.length_nil] at hcn; omega
  | cons st ts =>
    unfold pays at ha
    have h0 := ha.head
    rw [List.length_cons] at hcn
    have hrd : readP r at_ left 0 link = some (be2 s.length ++ s.take 36, st) := readP_of (by omega) (by rw [Nat.add_zero, h0, piece1_sc])
    have htk : (be2 s.length ++ s.take 36).take 2 = be2 s.length := by
      rw [List.take_append_of_le_length (by rw [be2_len]; decide), List.take_of_length_le (by rw [be2_len]; decide)]
    obtain ⟨ps, hp1, hp2, hp3⟩ := parts_cons s
    have hgot : gotP r at_ left (need s.length - 1) 1 st = some (ps, ts) := by
      by_cases hn : need s.length = 1
      · rw [hp2.2 hn]
        have : ts = [] := List.eq_nil_of_length_eq_zero (by omega)
        rw [this, hn]
        rfl
      · rw [hp3 hn]
        have hne : ts ≠ [] := by intro e; rw [e, List.length_nil] at hcn; omega
        have := gotP_of (r := r) (at_ := at_) (left := left) ts 1 st (s.drop 36) (by decide) hne (by omega) ha.tail (by
          rw [List.length_drop]
          unfold need at hcn
          omega)
        rw [show need s.length - 1 = ts.length by omega, show need s.length - 2 = ts.length - 1 by omega]
        exact this
    have hfl : (((be2 s.length ++ s.take 36) :: ps).flatten).drop 2 = s := by
      rw [← hp1, parts_flat]
      rfl
    unfold nextP
    rw [hrd]
    dsimp only
    rw [if_neg (by rw [List.length_append, be2_len]; omega), htk, num8_be2 (by omega), hgot]
    dsimp only
    rw [hfl, hp1, if_neg (by rintro (h | h); omega; exact h rfl)]
theorem gotP_some {r : Nat → X} {at_ left : Nat} (hr : Room r) : ∀ (n k link : Nat) (ps : List T) (ts : List Nat), gotP r at_ left n k link = some (ps, ts) → ps.length = n ∧ ts.length = n ∧ (1 ≤ n → k + n ≤ left) ∧ (∀ p ∈ ps, p.length ≤ 38) := by
  intro n
  induction n with
  | zero =>
    intro k link ps ts h
    unfold gotP at h
    injection h with h
    simp only [Prod.mk.injEq] at h
    obtain ⟨rfl, rfl⟩ := h
    exact ⟨rfl, rfl, by omega, fun p hp => by cases hp⟩
  | succ n ih =>
    intro k link ps ts h
    unfold gotP at h
    split at h
    · cases h
    · rename_i q hq
      obtain ⟨h1, _, h3⟩ := readP_some hr hq
      cases hg : gotP r at_ left n (k + 1) q.2 with
      | none => rw [hg] at h; cases h
      | some x =>
        rw [hg] at h
        injection h with h
        simp only [Prod.mk.injEq] at h
        obtain ⟨rfl, rfl⟩ := h
        obtain ⟨i1, i2, i3, i4⟩ := ih (k + 1) q.2 x.1 x.2 hg
        refine ⟨by rw [List.length_cons, i1], by rw [List.length_cons, i2], fun _ => ?_, fun p hp => ?_⟩
        · by_cases hn : 1 ≤ n
          · have := i3 hn; omega
          · omega
        · rcases List.mem_cons.1 hp with rfl | hp
          · exact h3
          · exact i4 p hp
theorem gotP_agree {r : Nat → X} {at_ left : Nat} (hr : Room r) : ∀ (n k link : Nat) (t : T) (ts : List Nat), k ≠ 0 → gotP r at_ left (n + 1) k link = some (cuts n t, ts) → Agree r (at_ + k) (pays2 link t ts) := by
  intro n
  induction n with
  | zero =>
    intro k link t ts hk h
    unfold gotP at h
    split at h
    · cases h
    · rename_i q hq
      obtain ⟨h1, h2, h3⟩ := readP_some hr hq
      unfold gotP at h
      injection h with h
      simp only [Prod.mk.injEq] at h
      obtain ⟨e1, rfl⟩ := h
      have e1' : [q.1] = [t] := e1
      injection e1' with e1'
      unfold pays2
      intro j w hw
      cases j with
      | zero =>
        injection hw with hw
        subst hw
        rw [Nat.add_zero, h2, piece2_sc hk, ← e1', List.take_of_length_le h3]
      | succ j => simp [pays2] at hw
  | succ n ih =>
    intro k link t ts hk h
    unfold gotP at h
    split at h
    · cases h
    · rename_i q hq
      obtain ⟨h1, h2, h3⟩ := readP_some hr hq
      cases hg : gotP r at_ left (n + 1) (k + 1) q.2 with
      | none => rw [hg] at h; cases h
      | some x =>
        rw [hg] at h
        injection h with h
        simp only [Prod.mk.injEq] at h
        obtain ⟨e1, rfl⟩ := h
        have e1' : q.1 :: x.1 = t.take 38 :: cuts n (t.drop 38) := e1
        injection e1' with e1' e2'
        have hi := ih (k + 1) q.2 (t.drop 38) x.2 (by omega) (by rw [hg, ← e2'])
        unfold pays2
        intro j w hw
        cases j with
        | zero =>
          injection hw with hw
          subst hw
          rw [Nat.add_zero, h2, piece2_sc hk, ← e1']
        | succ j =>
          rw [List.getElem?_cons_succ] at hw
          have := hi j w hw
          rw [show at_ + k + (j + 1) = at_ + (k + 1) + j by omega]
          exact this
theorem len_flatten_le : ∀ (ps : List T), (∀ p ∈ ps, p.length ≤ 38) → ps.flatten.length ≤ 38 * ps.length := by
  intro ps
  induction ps with
  | nil => intro _; simp
  | cons p ps ih =>
    intro h
    have h1 := h p (List.mem_cons_self ..)
    have h2 := ih fun q hq => h q (List.mem_cons_of_mem _ hq)
    rw [List.flatten_cons, List.length_append, List.length_cons]
    omega
/-- **WHAT IS READ WAS WRITTEN SO.** -/
theorem nextP_some {r : Nat → X} {at_ left link : Nat} {s : T} {ts : List Nat} (hr : Room r) (h : nextP r at_ left link = some (s, ts)) : Shp (s, ts) ∧ Agree r at_ (pays link s ts) ∧ need s.length ≤ left := by
  unfold nextP at h
  split at h
  · cases h
  · rename_i q hq
    obtain ⟨h1, h2, h3⟩ := readP_some hr hq
    split at h
    · cases h
    · rename_i hlen
      split at h
      · cases h
      · rename_i x hx
        split at h
        · cases h
        · rename_i hc
          injection h with h
          simp only [Prod.mk.injEq] at h
          obtain ⟨rfl, rfl⟩ := h
          obtain ⟨g1, g2, g3, g4⟩ := gotP_some hr _ _ _ x.1 x.2 hx
          have hc1 : num8 (q.1.take 2) ≤ 6000 := Nat.le_of_not_lt fun h => hc (Or.inl h)
          have hc2 : parts ((q.1 :: x.1).flatten.drop 2) = q.1 :: x.1 := Classical.byContradiction fun h => hc (Or.inr h)
          have hfl := len_flatten_le (q.1 :: x.1) (fun p hp => by
            rcases List.mem_cons.1 hp with rfl | hp
            · exact h3
            · exact g4 p hp)
          have hpf := parts_flat ((q.1 :: x.1).flatten.drop 2)
          rw [hc2] at hpf
          have hsl : (q.1 :: x.1).flatten.length = ((q.1 :: x.1).flatten.drop 2).length + 2 := by
            have := congrArg List.length hpf
            rw [List.length_append, be2_len] at this
            omega
          rw [List.length_cons, g1] at hfl
          have hpl := parts_len ((q.1 :: x.1).flatten.drop 2)
          rw [hc2, List.length_cons, g1] at hpl
          obtain ⟨ps, hp1, hp2, hp3⟩ := parts_cons ((q.1 :: x.1).flatten.drop 2)
          rw [hc2] at hp1
          injection hp1 with hp1 hp1'
          generalize (q.1 :: x.1).flatten.drop 2 = s at *
          have htk : q.1.take 2 = be2 s.length := by
            rw [hp1, List.take_append_of_le_length (by rw [be2_len]; decide), List.take_of_length_le (by rw [be2_len]; decide)]
          rw [htk, num8_be2_le] at hc1 hpl g1 g2 g3 hx
          have hnp := need_pos (s.length % 65536)
          have hs : s.length % 65536 = s.length := by
            rw [htk, num8_be2_le] at hfl
            have : need (s.length % 65536) ≤ 160 := by unfold need; omega
            omega
          rw [hs] at hc1 hpl g1 g2 g3 hx
          have hS : Shp (s, q.2 :: x.2) := ⟨hc1, by
            show (q.2 :: x.2).length = need s.length
            rw [List.length_cons, g2]
            omega⟩
          refine ⟨hS, ?_, ?_⟩
          · unfold pays
            intro j w hw
            cases j with
            | zero =>
              injection hw with hw
              subst hw
              rw [h2, piece1_sc, hp1]
            | succ j =>
              rw [List.getElem?_cons_succ] at hw
              by_cases hn : need s.length = 1
              · have : x.2 = [] := List.eq_nil_of_length_eq_zero (by omega)
                rw [this] at hw
                simp [pays2] at hw
              · have e : x.1 = cuts (need s.length - 2) (s.drop 36) := by rw [hp1', hp3 hn]
                have hx' : gotP r at_ left (need s.length - 2 + 1) 1 q.2 = some (cuts (need s.length - 2) (s.drop 36), x.2) := by
                  rw [show need s.length - 2 + 1 = need s.length - 1 by omega, ← e]
                  exact hx
                have := gotP_agree hr _ 1 q.2 (s.drop 36) x.2 (by decide) hx' j w hw
                rw [show at_ + (j + 1) = at_ + 1 + j by omega]
                exact this
          · by_cases hn : 1 ≤ need s.length - 1
            · have := g3 hn; omega
            · omega
/-- Nothing hangs together there: nothing is read. -/
theorem nextP_none {r : Nat → X} {at_ left link : Nat} (hr : Room r) (h : one r at_ left link = none) : nextP r at_ left link = none := by
  cases hn : nextP r at_ left link with
  | none => rfl
  | some q =>
    obtain ⟨s, ts⟩ := q
    obtain ⟨h1, h2, h3⟩ := nextP_some hr hn
    rw [one_agree r ts at_ left link s h2 h1.short h1.cnt h3] at h
    cases h
end Jrn
end Go.Proofs.YtjdklifkalnamaaGreatDoor

namespace Go.Proofs.YtjdklifkalnamaaGreatDoor
set_option linter.unusedVariables false

namespace Jrn
open Grd (eight num8 num8_eight eight_len)
/-- The data of the parts from number k on. -/
def dats (b : Nat) : Nat → Nat → List T → Nat → List T
  | _, _, [], _ => []
  | k, link, p :: ps, wn => (sc k link ++ p) :: dats b (k + 1) (Grd.stamp b wn) ps (wn + 1)
theorem stamps_succ (b wn n : Nat) : stamps b wn (n + 1) = Grd.stamp b wn :: stamps b (wn + 1) n := by
  unfold stamps
  rw [List.range_succ_eq_map, List.map_cons, List.map_map]
  congr 1
  apply List.map_congr_left
  intro i _
  show Grd.stamp b (wn + (i + 1)) = Grd.stamp b (wn + 1 + i)
  congr 1
  omega
theorem stamps_snoc (b wn n : Nat) : stamps b wn (n + 1) = stamps b wn n ++ [Grd.stamp b (wn + n)] := by
  unfold stamps
  rw [List.range_succ, List.map_append]
  rfl
theorem dats_cuts (b : Nat) : ∀ (n k link : Nat) (t : T) (wn : Nat), k ≠ 0 → t.length ≤ 38 * (n + 1) → dats b k link (cuts n t) wn = (pays2 link t (stamps b wn (n + 1))).map Prod.fst := by
  intro n
  induction n with
  | zero =>
    intro k link t wn hk hl
    rw [stamps_succ]
    show [sc k link ++ t] = [piece2 link t]
    rw [piece2_sc hk, List.take_of_length_le (by omega)]
  | succ n ih =>
    intro k link t wn hk hl
    rw [stamps_succ]
    show (sc k link ++ t.take 38) :: dats b (k + 1) (Grd.stamp b wn) (cuts n (t.drop 38)) (wn + 1) = piece2 link t :: (pays2 _ (t.drop 38) _).map Prod.fst
    rw [piece2_sc hk, ih (k + 1) _ (t.drop 38) (wn + 1) (by omega) (by rw [List.length_drop]; omega)]
theorem dats_parts (b link wn : Nat) (s : T) : dats b 0 link (parts s) wn = datas link s b wn := by
  have hnp := need_pos s.length
  obtain ⟨ps, hp1, hp2, hp3⟩ := parts_cons s
  unfold datas
  obtain ⟨n, hn⟩ : ∃ n, need s.length = n + 1 := ⟨need s.length - 1, by omega⟩
  rw [hn, stamps_succ, hp1]
  show (sc 0 link ++ _) :: dats b 1 (Grd.stamp b wn) ps (wn + 1) = piece1 link s :: (pays2 _ (s.drop 36) _).map Prod.fst
  rw [piece1_sc]
  congr 1
  by_cases h1 : need s.length = 1
  · rw [hp2.2 h1]
    have : n = 0 := by omega
    subst this
    rfl
  · rw [hp3 h1]
    obtain ⟨m, hm⟩ : ∃ m, n = m + 1 := ⟨n - 1, by omega⟩
    subst hm
    rw [show need s.length - 2 = m by omega]
    exact dats_cuts b m 1 _ _ (wn + 1) (by decide) (by rw [List.length_drop]; unfold need at hn; omega)
theorem putAll_cons (b wn : Nat) (x : T) (xs : List T) (i : Int) (d : Dsk.St) : putAll b (x :: xs) i wn d = if (Grd.put b wn d i x).2.1 ≠ 0 then ((Grd.put b wn d i x).2.1, (Grd.put b wn d i x).2.2.1, (Grd.put b wn d i x).2.2.2)
    else putAll b xs (i + 1) (Grd.put b wn d i x).2.2.1 (Grd.put b wn d i x).2.2.2 := rfl
/-- A put that goes well. -/
theorem put_ok {b wn : Nat} {d : Dsk.St} {i : Int} {x : T} (h : (Grd.put b wn d i x).2.1 = 0) : (Grd.put b wn d i x).1 = (Grd.stamp b wn : Int) ∧ (Grd.put b wn d i x).2.2.1 = wn + 1 := by
  unfold Grd.put at h ⊢
  split
  · rename_i h1; rw [if_pos h1] at h; exact absurd (show (3 : Int) = 0 from h) (by decide)
  · rename_i h1
    rw [if_neg h1] at h
    split
    · rename_i h2; rw [if_pos h2] at h; exact absurd (show (6 : Int) = 0 from h) (by decide)
    · rename_i h2
      rw [if_neg h2] at h
      split
      · rename_i h3; rw [if_pos h3] at h; exact absurd h h3
      · exact ⟨rfl, rfl⟩
/-- A put that fails has no stamp. -/
theorem put_bad {b wn : Nat} {d : Dsk.St} {i : Int} {x : T} (h : (Grd.put b wn d i x).2.1 ≠ 0) : (Grd.put b wn d i x).1 = 0 ∧ (Grd.put b wn d i x).2.2.1 = wn := by
  unfold Grd.put at h ⊢
  split
  · exact ⟨rfl, rfl⟩
  · rename_i h1
    rw [if_neg h1] at h
    split
    · exact ⟨rfl, rfl⟩
    · rename_i h2
      rw [if_neg h2] at h
      split
      · exact ⟨rfl, rfl⟩
      · rename_i h3; rw [if_neg h3] at h; exact absurd rfl h
/-- What is read of a disk's sectors. -/
def rx (d : Dsk.St) (k : Nat) : X := ((Grd.read d (k : Int)).1, (Grd.read d (k : Int)).2.1.toNat, (Grd.read d (k : Int)).2.2)
theorem rd_room (b : T) : (Grd.rd b).1.length ≤ 47 ∧ ((Grd.rd b).1 ≠ [] → (Grd.rd b).2.2 = 0) := by
  unfold Grd.rd
  split
  · exact ⟨by simp, fun h => absurd rfl h⟩
  · split
    · rename_i h
      unfold Grd.isG at h
      simp only [Bool.and_eq_true, decide_eq_true_eq] at h
      refine ⟨?_, fun _ => rfl⟩
      rw [List.length_take]
      omega
    · exact ⟨by simp, fun h => absurd rfl h⟩
theorem read_eq (d : Dsk.St) (i : Int) : Grd.read d i = if (Dsk.read d i).2 ≠ 0 then ([], 0, (Dsk.read d i).2) else ((Grd.rd (Dsk.read d i).1).1, ((Grd.rd (Dsk.read d i).1).2.1 : Int), (Grd.rd (Dsk.read d i).1).2.2) := rfl
theorem rx_eq (d : Dsk.St) (k : Nat) : Grd.read d (k : Int) = ((rx d k).1, ((rx d k).2.1 : Int), (rx d k).2.2) := by
  unfold rx
  rw [read_eq]
  split
  · rfl
  · dsimp only
    rw [Int.toNat_natCast]
theorem rx_room (d : Dsk.St) : Room (rx d) := by
  constructor
  · intro k
    unfold rx
    rw [read_eq]
    split
    · simp
    · exact (rd_room _).1
  · intro k h
    unfold rx at h ⊢
    rw [read_eq] at h ⊢
    split
    · rename_i h1; rw [if_pos h1] at h; exact absurd rfl h
    · rename_i h1
      rw [if_neg h1] at h
      exact (rd_room _).2 h
theorem rx_lt (d : Dsk.St) (k : Nat) : (rx d k).2.1 < 9223372036854775808 := by
  unfold rx
  rw [read_eq]
  split
  · show (0 : Int).toNat < _; decide
  · dsimp only
    rw [Int.toNat_natCast]
    unfold Grd.rd
    split
    · show (0 : Nat) < _; decide
    · split
      · rename_i h
        exact (Grd.isG_ends h).2.2.2
      · show (0 : Nat) < _; decide
theorem readP_lt {d : Dsk.St} {at_ left k link : Nat} {q : T × Nat} (h : readP (rx d) at_ left k link = some q) : q.2 < 9223372036854775808 := by
  unfold readP at h
  split at h
  · injection h with h
    subst h
    exact rx_lt d _
  · cases h
/-- What the parts behind the first come to, with the first ones. -/
theorem gotP_step {r : Nat → X} {at_ left m k link : Nat} (A : List T) (B : List Nat) : (gotP r at_ left (m + 1) k link).map (fun x => (A ++ x.1, B ++ x.2)) = match readP r at_ left k link with
    | none => none
    | some q => (gotP r at_ left m (k + 1) q.2).map (fun x => ((A ++ [q.1]) ++ x.1, (B ++ [q.2]) ++ x.2)) := by
  show ((match readP r at_ left k link with
    | none => none
    | some q => (gotP r at_ left m (k + 1) q.2).map fun x => (q.1 :: x.1, q.2 :: x.2) : Option (List T × List Nat))).map _ = _
  cases readP r at_ left k link with
  | none => rfl
  | some q =>
    dsimp only
    rw [Option.map_map]
    congr 1
    funext x
    show (A ++ q.1 :: x.1, B ++ q.2 :: x.2) = _
    rw [List.append_assoc, List.append_assoc]
    rfl
/-- What all parts come to. -/
def endP (n : Nat) (o : Option (List T × List Nat)) : Option (T × List Nat) := match o with
  | none => none
  | some y => if 6000 < n ∨ parts (y.1.flatten.drop 2) ≠ y.1 then none else some (y.1.flatten.drop 2, y.2)
/-- nextP by what its parts come to. -/
theorem nextP_end {r : Nat → X} {at_ left link : Nat} {q : T × Nat} (h : readP r at_ left 0 link = some q) (hl : ¬ q.1.length < 2) :
    nextP r at_ left link = endP (num8 (q.1.take 2)) ((gotP r at_ left (need (num8 (q.1.take 2)) - 1) 1 q.2).map (fun x => ([q.1] ++ x.1, [q.2] ++ x.2))) := by
  unfold nextP
  rw [h]
  dsimp only
  rw [if_neg hl]
  cases gotP r at_ left (need (num8 (q.1.take 2)) - 1) 1 q.2 <;> rfl
/-- Has the sector i of a journal become durable, as it was written? -/
def firmAt (r : Nat → X) (wl : List Nat) (base : Nat) (ts : List Nat) (i : Nat) : Bool := ((r (base + i)).2.1 == ts.getD i 0) && !wl.contains (base + i)
end Jrn
end Go.Proofs.YtjdklifkalnamaaGreatDoor
