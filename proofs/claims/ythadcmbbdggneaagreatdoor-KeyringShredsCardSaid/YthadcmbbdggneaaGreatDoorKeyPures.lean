/-
  KeyPures: the texts KeySpec, DskLe, RingSpec, KeyPure in one.
-/
import Derived.Test.YthadcmbbdggneaaGreatDoorGrdRun
namespace Go.Proofs.YthadcmbbdggneaaGreatDoor
set_option linter.unusedVariables false

namespace Key
open Dsk (St Fall Sec)
abbrev T := List UInt8
/-- A key of one byte. -/
def keyT (c : Nat) : T := List.replicate 32 (UInt8.ofNat c)
theorem keyT_len (c : Nat) : (keyT c).length = 32 := List.length_replicate
/-- What a slot of the key c holds (0: it is free). -/
def Slot (c : Nat) (b : T) : Prop := (c = 0 ∧ b = Grd.noughts) ∨ (c ≠ 0 ∧ ∃ a, Grd.Stm a ∧ b = Grd.grd a (keyT c))
theorem Slot.len {c : Nat} {b : T} (h : Slot c b) : b.length = 64 := by
  rcases h with ⟨_, rfl⟩ | ⟨_, a, _, rfl⟩
  · exact Grd.noughts_len
  · exact Grd.grd_len (by rw [keyT_len]; decide)
theorem Slot.rd {c : Nat} {b : T} (h : Slot c b) : (c = 0 ∧ Grd.rd b = ([], 0, 7)) ∨ (c ≠ 0 ∧ ∃ a, Grd.rd b = (keyT c, a, 0)) := by
  rcases h with ⟨h0, rfl⟩ | ⟨h0, a, ha, rfl⟩
  · exact Or.inl ⟨h0, Grd.rd_noughts⟩
  · exact Or.inr ⟨h0, a, Grd.rd_grd (by rw [keyT_len]; decide) ha⟩
/-- A key, or noughts, over the other of both: torn, it is one of both, or told. -/
theorem torn_slot {a : Nat} {c : Nat} (ha : Grd.Stm a) (hc : c ≠ 0) (k : Nat) (hk : k < 64) :
    (Slot 0 ((Grd.grd a (keyT c)).take k ++ Grd.noughts.drop k) ∨ Slot c ((Grd.grd a (keyT c)).take k ++ Grd.noughts.drop k) ∨ (Grd.rd ((Grd.grd a (keyT c)).take k ++ Grd.noughts.drop k)).2.2 = 17) ∧
    (Slot 0 (Grd.noughts.take k ++ (Grd.grd a (keyT c)).drop k) ∨ Slot c (Grd.noughts.take k ++ (Grd.grd a (keyT c)).drop k) ∨ (Grd.rd (Grd.noughts.take k ++ (Grd.grd a (keyT c)).drop k)).2.2 = 17) := by
  have hl : (keyT c).length ≤ 47 := by rw [keyT_len]; decide
  have h1 : Grd.Cont (Grd.grd a (keyT c)) := Or.inr ⟨a, keyT c, rfl, hl, ha⟩
  have h2 : Grd.Cont Grd.noughts := Or.inl rfl
  have hg : ∀ x s, Grd.noughts = Grd.grd x s → Grd.Stm x → False := fun x s e hx => Grd.grd_ne hx e.symm
  constructor
  · rcases Grd.mix h1 h2 (fun x s y t e1 e2 hx hy => absurd hy (fun hy => hg y t e2 hy)) k hk with e | e | e
    · rw [e]; exact Or.inr (Or.inl (Or.inr ⟨hc, a, ha, rfl⟩))
    · rw [e]; exact Or.inl (Or.inl ⟨rfl, rfl⟩)
    · exact Or.inr (Or.inr e)
  · rcases Grd.mix h2 h1 (fun x s y t e1 e2 hx hy => absurd hx (fun hx => hg x s e1 hx)) k hk with e | e | e
    · rw [e]; exact Or.inl (Or.inl ⟨rfl, rfl⟩)
    · rw [e]; exact Or.inr (Or.inl (Or.inr ⟨hc, a, ha, rfl⟩))
    · exact Or.inr (Or.inr e)
theorem cut_lt (f : Fall) : Dsk.cut f < 64 := Dsk.cut_lt f
/-- What becomes of a slot that waits: the old, the new, or torn, which is told. -/
theorem fall_slot {old new : Nat} (hon : (old = 0 ∧ new ≠ 0) ∨ (old ≠ 0 ∧ new = 0)) {s : Sec} {p : T × Nat} (hs : Slot old s.sure) (hp : Slot new p.1) (f : Fall) (k : Nat) :
    Slot old (Dsk.fallOne f k s p).sure ∨ Slot new (Dsk.fallOne f k s p).sure ∨ (Grd.rd (Dsk.fallOne f k s p).sure).2.2 = 17 := by
  unfold Dsk.fallOne
  split
  · split
    · refine Or.inr (Or.inl ?_)
      show Slot new (p.1.take _ ++ p.1.drop _)
      rw [List.take_append_drop]
      exact hp
    · show Slot old (p.1.take _ ++ s.sure.drop _) ∨ Slot new (p.1.take _ ++ s.sure.drop _) ∨ (Grd.rd (p.1.take _ ++ s.sure.drop _)).2.2 = 17
      rcases hs with ⟨s0, s1⟩ | ⟨s0, a, sa, s1⟩
      · rcases hp with ⟨p0, p1⟩ | ⟨p0, b, pb, p1⟩
        · rcases hon with h | h <;> omega
        · subst s0
          rw [s1, p1]
          rcases (torn_slot pb p0 (Dsk.cut f) (cut_lt f)).1 with e | e | e
          · exact Or.inl e
          · exact Or.inr (Or.inl e)
          · exact Or.inr (Or.inr e)
      · rcases hp with ⟨p0, p1⟩ | ⟨p0, b, pb, p1⟩
        · subst p0
          rw [s1, p1]
          rcases (torn_slot sa s0 (Dsk.cut f) (cut_lt f)).2 with e | e | e
          · exact Or.inr (Or.inl e)
          · exact Or.inl e
          · exact Or.inr (Or.inr e)
        · rcases hon with h | h <;> omega
  · split
    · exact Or.inr (Or.inl hp)
    · exact Or.inl hs
/-! disks on which nothing waits, or one sector -/
theorem fallGo_id {f : Fall} : ∀ (L : List Sec) (k : Nat), (∀ x ∈ L, x.pend = none) → Dsk.fallGo f k L = L := by
  intro L
  induction L with
  | nil => intro k _; rfl
  | cons s L ih =>
    intro k h
    unfold Dsk.fallGo
    rw [h s (List.mem_cons_self ..)]
    dsimp only
    rw [ih k fun x hx => h x (List.mem_cons_of_mem _ hx)]
theorem fallGo_one {f : Fall} : ∀ (L : List Sec) (b : Nat) (x : Sec) (p : T × Nat), (∀ y ∈ L, y.pend = none) → L[b]? = some x → Dsk.fallGo f 0 (L.modify b fun y => ⟨y.sure, y.at_, some p⟩) = L.modify b fun _ => Dsk.fallOne f 0 ⟨x.sure, x.at_, some p⟩ p := by
  intro L
  induction L with
  | nil => intro b x p _ h; cases h
  | cons s L ih =>
    intro b x p h hx
    cases b with
    | zero =>
      injection hx with hx
      subst hx
      show Dsk.fallGo f 0 (⟨s.sure, s.at_, some p⟩ :: L) = Dsk.fallOne f 0 ⟨s.sure, s.at_, some p⟩ p :: L
      unfold Dsk.fallGo
      dsimp only
      rw [fallGo_id L 1 fun y hy => h y (List.mem_cons_of_mem _ hy)]
    | succ b =>
      show Dsk.fallGo f 0 (s :: L.modify b _) = s :: L.modify b _
      unfold Dsk.fallGo
      rw [h s (List.mem_cons_self ..)]
      dsimp only
      rw [ih b x p (fun y hy => h y (List.mem_cons_of_mem _ hy)) hx]
/-- A disk with a ring of eight slots from the sector 5 on: the slots' keys; nothing waits. -/
structure KOn (K : Nat → Nat) (d : St) : Prop where
  len : d.secs.length = 20
  free : ∀ x ∈ d.secs, x.pend = none
  slot : ∀ i, i < 8 → ∃ x, d.secs[5 + i]? = some x ∧ Slot (K i) x.sure
/-- The same, but of one slot, which is as it was, or done, or torn. -/
structure KMid (K : Nat → Nat) (j c : Nat) (d : St) : Prop where
  len : d.secs.length = 20
  free : ∀ x ∈ d.secs, x.pend = none
  slot : ∀ i, i < 8 → i ≠ j → ∃ x, d.secs[5 + i]? = some x ∧ Slot (K i) x.sure
  one : ∃ x, d.secs[5 + j]? = some x ∧ (Slot (K j) x.sure ∨ Slot c x.sure ∨ (Grd.rd x.sure).2.2 = 17)
def upd (K : Nat → Nat) (j c : Nat) (i : Nat) : Nat := if i = j then c else K i
theorem modify_at {L : List Sec} {i k : Nat} {f : Sec → Sec} {x : Sec} (hx : L[i]? = some x) : (L.modify i f)[k]? = if k = i then some (f x) else L[k]? := by
  rw [List.getElem?_modify]
  by_cases h : k = i
  · subst h
    rw [if_pos rfl, hx]
    simp
  · rw [if_neg h]
    have h' : ¬ i = k := fun e => h e.symm
    simp [h']
theorem act_cases (d : St) : ((Dsk.act d).1 = false ∧ ∃ f, (Dsk.act d).2 = Dsk.fall f d) ∨ ((Dsk.act d).1 = true ∧ (Dsk.act d).2.secs = d.secs ∧ (Dsk.act d).2.up = d.up ∧ (Dsk.act d).2.acts = d.acts + 1 ∧ (Dsk.act d).2.falls = d.falls ∧ (d.arm = none → (Dsk.act d).2.arm = none)) := by
  unfold Dsk.act
  split
  · exact Or.inl ⟨rfl, _, rfl⟩
  · rename_i e; exact Or.inr ⟨rfl, rfl, rfl, rfl, rfl, fun h => by rw [e] at h; cases h⟩
  · rename_i e; exact Or.inr ⟨rfl, rfl, rfl, rfl, rfl, fun _ => e⟩
/-- A loss while nothing waits. -/
theorem fall_none {K : Nat → Nat} {d : St} (h : KOn K d) (f : Fall) : KOn K (Dsk.fall f d) := by
  have e : (Dsk.fall f d).secs = d.secs := fallGo_id _ 0 h.free
  exact ⟨by rw [e]; exact h.len, by rw [e]; exact h.free, by rw [e]; exact h.slot⟩
/-- A loss while one slot waits. -/
theorem fall_one {K : Nat → Nat} {d d' : St} (h : KOn K d) {j c : Nat} (hj : j < 8) (hon : (K j = 0 ∧ c ≠ 0) ∨ (K j ≠ 0 ∧ c = 0)) {p : T × Nat} (hp : Slot c p.1) (f : Fall) (hd : d'.secs = d.secs.modify (5 + j) fun y => ⟨y.sure, y.at_, some p⟩) : KMid K j c (Dsk.fall f d') := by
  obtain ⟨x, hx, hs⟩ := h.slot j hj
  have e : (Dsk.fall f d').secs = d.secs.modify (5 + j) fun _ => Dsk.fallOne f 0 ⟨x.sure, x.at_, some p⟩ p := by
    show Dsk.fallGo f 0 d'.secs = _
    rw [hd]
    exact fallGo_one d.secs (5 + j) x p h.free hx
  refine ⟨by rw [e, List.length_modify]; exact h.len, fun y hy => Dsk.fallGo_none y hy, fun i hi hij => ?_, ⟨_, ?_, fall_slot hon (s := ⟨x.sure, x.at_, some p⟩) hs hp f 0⟩⟩
  · obtain ⟨y, hy, hk⟩ := h.slot i hi
    refine ⟨y, ?_, hk⟩
    rw [e, modify_at hx, if_neg (by omega)]
    exact hy
  · rw [e, modify_at hx, if_pos rfl]
theorem KOn.mid {K : Nat → Nat} {d : St} (h : KOn K d) {j : Nat} (hj : j < 8) (c : Nat) : KMid K j c d := by
  obtain ⟨x, hx, hs⟩ := h.slot j hj
  exact ⟨h.len, h.free, fun i hi _ => h.slot i hi, x, hx, Or.inl hs⟩
/-- **A SLOT IS WRITTEN AND FLUSHED, OR THE POWER GOES.** What is written: a key into a free one, or noughts over a key (or over what is torn). -/
theorem write_flush {K : Nat → Nat} {d : St} (h : KOn K d) (hu : d.up = true) {j c : Nat} (hj : j < 8) (hon : (K j = 0 ∧ c ≠ 0) ∨ (K j ≠ 0 ∧ c = 0)) {b : T} (hb : Slot c b) :
    ∀ r, r = Dsk.write d ((5 + j : Nat) : Int) b →
      (r.1 = 8 ∧ r.2.up = false ∧ KOn K r.2 ∧ r.2.acts ≤ d.acts + 1 ∧ r.2.falls = d.falls + 1) ∨
      (r.1 = 0 ∧ r.2.up = true ∧ r.2.acts = d.acts + 1 ∧ r.2.falls = d.falls ∧ (d.arm = none → r.2.arm = none) ∧ ∀ q, q = Dsk.flush r.2 →
        (q.1 = 8 ∧ q.2.up = false ∧ KMid K j c q.2 ∧ q.2.acts ≤ d.acts + 2 ∧ q.2.falls = d.falls + 1 ∧ r.2.arm ≠ none) ∨
        (q.1 = 0 ∧ q.2.up = true ∧ KOn (upd K j c) q.2 ∧ q.2.acts = d.acts + 2 ∧ q.2.falls = d.falls ∧ (d.arm = none → q.2.arm = none))) := by
  rintro r rfl
  have hlen := h.len
  have hW : Dsk.write d ((5 + j : Nat) : Int) b = if (Dsk.act d).1 = false then (8, (Dsk.act d).2) else (0, Dsk.put (Dsk.act d).2 (5 + j) b) := by
    unfold Dsk.write
    rw [if_neg (by rw [hu]; decide), if_neg (by omega), if_neg (by rw [hb.len]; decide), Int.toNat_natCast]
  rcases act_cases d with ⟨a1, f, a2⟩ | ⟨a1, a2, a3, a4, a5, a6⟩
  · left
    rw [hW, if_pos a1, a2]
    exact ⟨rfl, rfl, fall_none h f, Nat.le_succ _, rfl⟩
  · right
    rw [hW, if_neg (by rw [a1]; decide)]
    have hsec : (Dsk.put (Dsk.act d).2 (5 + j) b).secs = d.secs.modify (5 + j) fun y => ⟨y.sure, y.at_, some (b, (Dsk.act d).2.acts)⟩ := by
      show (Dsk.act d).2.secs.modify _ _ = _
      rw [a2]
    have hup : (Dsk.put (Dsk.act d).2 (5 + j) b).up = true := by show (Dsk.act d).2.up = true; rw [a3]; exact hu
    have hac : (Dsk.put (Dsk.act d).2 (5 + j) b).acts = d.acts + 1 := a4
    have hfa : (Dsk.put (Dsk.act d).2 (5 + j) b).falls = d.falls := a5
    have har : d.arm = none → (Dsk.put (Dsk.act d).2 (5 + j) b).arm = none := a6
    refine ⟨rfl, hup, hac, hfa, har, ?_⟩
    dsimp only
    generalize Dsk.put (Dsk.act d).2 (5 + j) b = d1 at hsec hup hac hfa har
    rintro q rfl
    have hF : Dsk.flush d1 = if (Dsk.act d1).1 = false then (8, (Dsk.act d1).2) else (0, { (Dsk.act d1).2 with secs := (Dsk.act d1).2.secs.map Dsk.flushed }) := by
      unfold Dsk.flush
      rw [if_neg (by rw [hup]; decide)]
    rcases act_cases d1 with ⟨b1, f, b2⟩ | ⟨b1, b2, b3, b4, b5, b6⟩
    · left
      rw [hF, if_pos b1, b2]
      refine ⟨rfl, rfl, fall_one h hj hon hb f hsec, by show d1.acts ≤ _; omega, by show d1.falls + 1 = _; omega, fun e => ?_⟩
      unfold Dsk.act at b1
      rw [e] at b1
      cases b1
    · right
      rw [hF, if_neg (by rw [b1]; decide)]
      obtain ⟨x, hx, hs⟩ := h.slot j hj
      have hsec2 : ∀ k, ((Dsk.act d1).2.secs.map Dsk.flushed)[k]? = if k = 5 + j then some ⟨b, (Dsk.act d).2.acts, none⟩ else (d.secs[k]?).map Dsk.flushed := by
        intro k
        rw [b2, hsec, List.getElem?_map, modify_at hx]
        split
        · rfl
        · rfl
      refine ⟨rfl, by show (Dsk.act d1).2.up = true; rw [b3]; exact hup, ⟨?_, ?_, ?_⟩, by show (Dsk.act d1).2.acts = _; omega, by show (Dsk.act d1).2.falls = _; omega, fun e => b6 (har e)⟩
      · show ((Dsk.act d1).2.secs.map Dsk.flushed).length = 20
        rw [List.length_map, b2, hsec, List.length_modify]
        exact h.len
      · intro y hy
        obtain ⟨z, _, rfl⟩ := List.mem_map.1 hy
        unfold Dsk.flushed
        cases hz : z.pend with
        | none => exact hz
        | some p => rfl
      · intro i hi
        show ∃ x, ((Dsk.act d1).2.secs.map Dsk.flushed)[5 + i]? = some x ∧ Slot (upd K j c i) x.sure
        rw [hsec2 (5 + i)]
        unfold upd
        by_cases hij : i = j
        · rw [if_pos (by omega), if_pos hij]
          exact ⟨_, rfl, hb⟩
        · rw [if_neg (by omega), if_neg hij]
          obtain ⟨y, hy, hk⟩ := h.slot i hi
          have hp : y.pend = none := h.free y (List.mem_of_getElem? hy)
          refine ⟨y, ?_, hk⟩
          rw [hy, Option.map_some]
          unfold Dsk.flushed
          rw [hp]
/-- What a slot tells. -/
theorem KOn.read {K : Nat → Nat} {d : St} (h : KOn K d) (hu : d.up = true) {i : Nat} (hi : i < 8) : (K i = 0 ∧ Grd.read d ((5 + i : Nat) : Int) = ([], 0, 7)) ∨ (K i ≠ 0 ∧ ∃ a : Nat, Grd.read d ((5 + i : Nat) : Int) = (keyT (K i), (a : Int), 0)) := by
  obtain ⟨x, hx, hs⟩ := h.slot i hi
  have hp : x.pend = none := h.free x (List.mem_of_getElem? hx)
  have hr : Dsk.read d ((5 + i : Nat) : Int) = (x.sure, 0) := by
    have hl := h.len
    unfold Dsk.read
    rw [if_neg (by rw [hu]; decide), if_neg (by omega), Int.toNat_natCast, hx]
    show (x.now, (0 : Int)) = _
    unfold Dsk.Sec.now
    rw [hp]
  have hg : Grd.read d ((5 + i : Nat) : Int) = ((Grd.rd x.sure).1, ((Grd.rd x.sure).2.1 : Int), (Grd.rd x.sure).2.2) := by
    unfold Grd.read
    rw [hr, if_neg (by simp)]
  rw [hg]
  rcases hs.rd with ⟨h0, e⟩ | ⟨h0, a, e⟩
  · exact Or.inl ⟨h0, by rw [e]; rfl⟩
  · exact Or.inr ⟨h0, a, by rw [e]⟩
theorem KOn.same {K : Nat → Nat} {d d' : St} (h : KOn K d) (hs : d'.secs = d.secs) : KOn K d' := ⟨by rw [hs]; exact h.len, by rw [hs]; exact h.free, by rw [hs]; exact h.slot⟩
theorem KMid.same {K : Nat → Nat} {j c : Nat} {d d' : St} (h : KMid K j c d) (hs : d'.secs = d.secs) : KMid K j c d' := ⟨by rw [hs]; exact h.len, by rw [hs]; exact h.free, by rw [hs]; exact h.slot, by rw [hs]; exact h.one⟩
theorem KOn.eq {K K' : Nat → Nat} {d : St} (h : KOn K d) (hk : ∀ i, i < 8 → K' i = K i) : KOn K' d := ⟨h.len, h.free, fun i hi => by rw [hk i hi]; exact h.slot i hi⟩
/-- One slot is torn, and told so. -/
structure KTorn (K : Nat → Nat) (j : Nat) (d : St) : Prop where
  len : d.secs.length = 20
  free : ∀ x ∈ d.secs, x.pend = none
  slot : ∀ i, i < 8 → i ≠ j → ∃ x, d.secs[5 + i]? = some x ∧ Slot (K i) x.sure
  one : ∃ x, d.secs[5 + j]? = some x ∧ (Grd.rd x.sure).2.2 = 17
/-- Behind a loss a slot is as it was, or done, or torn. -/
theorem KMid.cases {K : Nat → Nat} {j c : Nat} {d : St} (h : KMid K j c d) : KOn K d ∨ KOn (upd K j c) d ∨ KTorn K j d := by
  obtain ⟨x, hx, hs⟩ := h.one
  rcases hs with hs | hs | hs
  · refine Or.inl ⟨h.len, h.free, fun i hi => ?_⟩
    by_cases hij : i = j
    · subst hij; exact ⟨x, hx, hs⟩
    · exact h.slot i hi hij
  · refine Or.inr (Or.inl ⟨h.len, h.free, fun i hi => ?_⟩)
    unfold upd
    by_cases hij : i = j
    · subst hij; rw [if_pos rfl]; exact ⟨x, hx, hs⟩
    · rw [if_neg hij]; exact h.slot i hi hij
  · exact Or.inr (Or.inr ⟨h.len, h.free, h.slot, x, hx, hs⟩)
theorem KTorn.read {K : Nat → Nat} {j : Nat} {d : St} (h : KTorn K j d) (hu : d.up = true) (hj : j < 8) : ∃ (t : T) (a : Nat), Grd.read d ((5 + j : Nat) : Int) = (t, (a : Int), 17) := by
  obtain ⟨x, hx, hs⟩ := h.one
  have hp : x.pend = none := h.free x (List.mem_of_getElem? hx)
  have hr : Dsk.read d ((5 + j : Nat) : Int) = (x.sure, 0) := by
    have hl := h.len
    unfold Dsk.read
    rw [if_neg (by rw [hu]; decide), if_neg (by omega), Int.toNat_natCast, hx]
    show (x.now, (0 : Int)) = _
    unfold Dsk.Sec.now
    rw [hp]
  refine ⟨(Grd.rd x.sure).1, (Grd.rd x.sure).2.1, ?_⟩
  unfold Grd.read
  rw [hr, if_neg (by simp), hs]
/-- **A TORN SLOT IS SHREDDED**, without a loss armed. -/
theorem torn_shred {K : Nat → Nat} {j : Nat} {d : St} (h : KTorn K j d) (hu : d.up = true) (ha : d.arm = none) (hj : j < 8) :
    ∃ d1 d2, Dsk.write d ((5 + j : Nat) : Int) Grd.noughts = (0, d1) ∧ Dsk.flush d1 = (0, d2) ∧ d2.up = true ∧ d2.arm = none ∧ KOn (upd K j 0) d2 ∧ d2.acts = d.acts + 2 ∧ d2.falls = d.falls := by
  have hlen := h.len
  obtain ⟨x, hx, hs⟩ := h.one
  have hact : ∀ e : St, e.arm = none → Dsk.act e = (true, { e with acts := e.acts + 1 }) := fun e he => by unfold Dsk.act; rw [he]
  have hW : Dsk.write d ((5 + j : Nat) : Int) Grd.noughts = (0, Dsk.put { d with acts := d.acts + 1 } (5 + j) Grd.noughts) := by
    unfold Dsk.write
    rw [if_neg (by rw [hu]; decide), if_neg (by omega), if_neg (by rw [Grd.noughts_len]; decide), Int.toNat_natCast, hact d ha]
    rfl
  have hF : Dsk.flush (Dsk.put { d with acts := d.acts + 1 } (5 + j) Grd.noughts) = (0, { Dsk.put { d with acts := d.acts + 1 } (5 + j) Grd.noughts with acts := d.acts + 2, secs := (Dsk.put { d with acts := d.acts + 1 } (5 + j) Grd.noughts).secs.map Dsk.flushed }) := by
    unfold Dsk.flush
    rw [if_neg (by show ¬ d.up = false; rw [hu]; decide), hact _ (by show d.arm = none; exact ha)]
    rfl
  refine ⟨_, _, hW, hF, hu, ha, ⟨?_, ?_, ?_⟩, rfl, rfl⟩
  · show ((d.secs.modify (5 + j) _).map Dsk.flushed).length = 20
    rw [List.length_map, List.length_modify]
    exact hlen
  · intro y hy
    obtain ⟨z, _, rfl⟩ := List.mem_map.1 hy
    unfold Dsk.flushed
    cases hz : z.pend with
    | none => exact hz
    | some p => rfl
  · intro i hi
    show ∃ x, ((d.secs.modify (5 + j) _).map Dsk.flushed)[5 + i]? = some x ∧ Slot (upd K j 0 i) x.sure
    rw [List.getElem?_map, modify_at hx]
    unfold upd
    by_cases hij : i = j
    · rw [if_pos (by omega), if_pos hij]
      exact ⟨_, rfl, Or.inl ⟨rfl, rfl⟩⟩
    · rw [if_neg (by omega), if_neg hij]
      obtain ⟨y, hy, hk⟩ := h.slot i hi hij
      have hp : y.pend = none := h.free y (List.mem_of_getElem? hy)
      refine ⟨y, ?_, hk⟩
      rw [hy, Option.map_some]
      unfold Dsk.flushed
      rw [hp]
/-- A new disk: all slots are free. -/
theorem kon_fresh : KOn (fun _ => 0) (Dsk.fresh 20) := by
  refine ⟨List.length_replicate, fun x hx => ?_, fun i hi => ⟨⟨Grd.noughts, 0, none⟩, ?_, Or.inl ⟨rfl, rfl⟩⟩⟩
  · have hx' : x ∈ List.replicate 20 (⟨List.replicate 64 0, 0, none⟩ : Sec) := hx
    rw [(List.mem_replicate.1 hx').2]
  · show (List.replicate 20 (⟨List.replicate 64 0, 0, none⟩ : Sec))[5 + i]? = _
    rw [List.getElem?_replicate, if_pos (by omega)]
    rfl
end Key
end Go.Proofs.YthadcmbbdggneaaGreatDoor

namespace Go.Proofs.YthadcmbbdggneaaGreatDoor
set_option linter.unusedVariables false

namespace Dsk
theorem act_le (d : St) : (act d).2.acts ≤ d.acts + 1 ∧ (act d).2.falls ≤ d.falls + 1 := by
  unfold act
  split
  · exact ⟨Nat.le_succ _, Nat.le_refl _⟩
  · exact ⟨Nat.le_refl _, Nat.le_succ _⟩
  · exact ⟨Nat.le_refl _, Nat.le_succ _⟩
theorem write_le (d : St) (i : Int) (s : T) : (write d i s).2.acts ≤ d.acts + 1 ∧ (write d i s).2.falls ≤ d.falls + 1 := by
  have ha := act_le d
  unfold write
  split
  · exact ⟨Nat.le_succ _, Nat.le_succ _⟩
  · split
    · exact ⟨Nat.le_succ _, Nat.le_succ _⟩
    · split
      · exact ⟨Nat.le_succ _, Nat.le_succ _⟩
      · split
        · exact ha
        · exact ha
theorem flush_le (d : St) : (flush d).2.acts ≤ d.acts + 1 ∧ (flush d).2.falls ≤ d.falls + 1 := by
  have ha := act_le d
  unfold flush
  split
  · exact ⟨Nat.le_succ _, Nat.le_succ _⟩
  · split
    · exact ha
    · exact ha
end Dsk
namespace Grd
theorem put_le (boot wr : Nat) (d : Dsk.St) (i : Int) (s : T) : (put boot wr d i s).2.2.2.acts ≤ d.acts + 1 ∧ (put boot wr d i s).2.2.2.falls ≤ d.falls + 1 := by
  have h := Dsk.write_le d i (grd (stamp boot wr) s)
  unfold put
  split
  · exact ⟨Nat.le_succ _, Nat.le_succ _⟩
  · split
    · exact ⟨Nat.le_succ _, Nat.le_succ _⟩
    · split
      · exact h
      · exact h
end Grd
end Go.Proofs.YthadcmbbdggneaaGreatDoor

namespace Go.Proofs.YthadcmbbdggneaaGreatDoor
set_option linter.unusedVariables false

namespace Ring
/-- What a slot tells of what the guard tells. -/
def got (r : List UInt8 × Int × Int) : List UInt8 × Int := if r.2.2 ≠ 0 then ([], r.2.2) else if r.1.length ≠ 32 then ([], 17) else (r.1, 0)
end Ring
namespace Ring
/-- Put of a slot that there is. -/
def put (boot wr : Nat) (d : Dsk.St) (a : Int) (s : List UInt8) : Int × Nat × Dsk.St :=
  if s.length ≠ 32 then (1, wr, d) else if d.up = false then (8, wr, d) else if (Grd.read d a).2.2 ≠ 7 then (25, wr, d)
  else if (Grd.put boot wr d a s).2.1 ≠ 0 then ((Grd.put boot wr d a s).2.1, (Grd.put boot wr d a s).2.2.1, (Grd.put boot wr d a s).2.2.2)
  else ((Dsk.flush (Grd.put boot wr d a s).2.2.2).1, (Grd.put boot wr d a s).2.2.1, (Dsk.flush (Grd.put boot wr d a s).2.2.2).2)
/-- Shred of a slot that there is. -/
def shred (sh : Nat) (d : Dsk.St) (a : Int) : Int × Nat × Dsk.St :=
  if d.up = false then (8, sh, d) else if (Grd.read d a).2.2 = 7 then (0, sh, d)
  else if (Dsk.write d a Grd.noughts).1 ≠ 0 then ((Dsk.write d a Grd.noughts).1, sh, (Dsk.write d a Grd.noughts).2)
  else if (Dsk.flush (Dsk.write d a Grd.noughts).2).1 ≠ 0 then ((Dsk.flush (Dsk.write d a Grd.noughts).2).1, sh, (Dsk.flush (Dsk.write d a Grd.noughts).2).2)
  else (0, sh + 1, (Dsk.flush (Dsk.write d a Grd.noughts).2).2)
theorem shred_le (sh : Nat) (d : Dsk.St) (a : Int) : (shred sh d a).2.2.acts ≤ d.acts + 2 ∧ (shred sh d a).2.2.falls ≤ d.falls + 2 ∧ (shred sh d a).2.1 ≤ sh + 1 ∧ sh ≤ (shred sh d a).2.1 := by
  have h1 := Dsk.write_le d a Grd.noughts
  have h2 := Dsk.flush_le (Dsk.write d a Grd.noughts).2
  unfold shred
  split
  · exact ⟨Nat.le_add_right _ _, Nat.le_add_right _ _, Nat.le_succ _, Nat.le_refl _⟩
  · split
    · exact ⟨Nat.le_add_right _ _, Nat.le_add_right _ _, Nat.le_succ _, Nat.le_refl _⟩
    · split
      · exact ⟨by show (Dsk.write d a Grd.noughts).2.acts ≤ _; omega, by show (Dsk.write d a Grd.noughts).2.falls ≤ _; omega, Nat.le_succ _, Nat.le_refl _⟩
      · split
        · exact ⟨by show (Dsk.flush (Dsk.write d a Grd.noughts).2).2.acts ≤ _; omega, by show (Dsk.flush (Dsk.write d a Grd.noughts).2).2.falls ≤ _; omega, Nat.le_succ _, Nat.le_refl _⟩
        · exact ⟨by show (Dsk.flush (Dsk.write d a Grd.noughts).2).2.acts ≤ _; omega, by show (Dsk.flush (Dsk.write d a Grd.noughts).2).2.falls ≤ _; omega, Nat.le_refl _, Nat.le_succ _⟩
end Ring
namespace Ring
/-- Keep: the slots from the n-th last on of N. -/
def keepFrom (used : List Int) (base N : Nat) : Nat → Nat → Dsk.St → Int × Nat × Dsk.St
  | 0, sh, d => (0, sh, d)
  | n + 1, sh, d => if (((N - (n + 1) : Nat) : Int) ∈ used) then keepFrom used base N n sh d
    else if (shred sh d ((base + (N - (n + 1)) : Nat) : Int)).1 ≠ 0 then shred sh d ((base + (N - (n + 1)) : Nat) : Int)
    else keepFrom used base N n (shred sh d ((base + (N - (n + 1)) : Nat) : Int)).2.1 (shred sh d ((base + (N - (n + 1)) : Nat) : Int)).2.2
theorem keepFrom_zero (used : List Int) (base N sh : Nat) (d : Dsk.St) : keepFrom used base N 0 sh d = (0, sh, d) := rfl
theorem keepFrom_succ (used : List Int) (base N n sh : Nat) (d : Dsk.St) : keepFrom used base N (n + 1) sh d = if (((N - (n + 1) : Nat) : Int) ∈ used) then keepFrom used base N n sh d
    else if (shred sh d ((base + (N - (n + 1)) : Nat) : Int)).1 ≠ 0 then shred sh d ((base + (N - (n + 1)) : Nat) : Int)
    else keepFrom used base N n (shred sh d ((base + (N - (n + 1)) : Nat) : Int)).2.1 (shred sh d ((base + (N - (n + 1)) : Nat) : Int)).2.2 := rfl
theorem keepFrom_used {used : List Int} {base N n i : Nat} (sh : Nat) (d : Dsk.St) (hi : i + (n + 1) = N) (hu : (i : Int) ∈ used) : keepFrom used base N (n + 1) sh d = keepFrom used base N n sh d := by
  have e : N - (n + 1) = i := by omega
  rw [keepFrom_succ, e, if_pos hu]
theorem keepFrom_bad {used : List Int} {base N n i : Nat} {sh : Nat} {d : Dsk.St} (hi : i + (n + 1) = N) (hu : (i : Int) ∉ used) (hc : (shred sh d ((base + i : Nat) : Int)).1 ≠ 0) : keepFrom used base N (n + 1) sh d = shred sh d ((base + i : Nat) : Int) := by
  have e : N - (n + 1) = i := by omega
  rw [keepFrom_succ, e, if_neg hu, if_pos hc]
theorem keepFrom_next {used : List Int} {base N n i : Nat} {sh : Nat} {d : Dsk.St} (hi : i + (n + 1) = N) (hu : (i : Int) ∉ used) (hc : (shred sh d ((base + i : Nat) : Int)).1 = 0) : keepFrom used base N (n + 1) sh d = keepFrom used base N n (shred sh d ((base + i : Nat) : Int)).2.1 (shred sh d ((base + i : Nat) : Int)).2.2 := by
  have e : N - (n + 1) = i := by omega
  rw [keepFrom_succ, e, if_neg hu, if_neg (by rw [hc]; decide)]
/-- The first of N, of the n last ones, that is so. -/
def firstIn (p : Nat → Bool) (N : Nat) : Nat → Option Nat
  | 0 => none
  | n + 1 => if p (N - (n + 1)) = true then some (N - (n + 1)) else firstIn p N n
theorem firstIn_succ (p : Nat → Bool) (N n : Nat) : firstIn p N (n + 1) = if p (N - (n + 1)) = true then some (N - (n + 1)) else firstIn p N n := rfl
theorem firstIn_yes {p : Nat → Bool} {N n i : Nat} (hi : i + (n + 1) = N) (h : p i = true) : firstIn p N (n + 1) = some i := by
  have e : N - (n + 1) = i := by omega
  rw [firstIn_succ, e, if_pos h]
theorem firstIn_no {p : Nat → Bool} {N n i : Nat} (hi : i + (n + 1) = N) (h : p i = false) : firstIn p N (n + 1) = firstIn p N n := by
  have e : N - (n + 1) = i := by omega
  rw [firstIn_succ, e, if_neg (by rw [h]; decide)]
end Ring
end Go.Proofs.YthadcmbbdggneaaGreatDoor

namespace Go.Proofs.YthadcmbbdggneaaGreatDoor
set_option linter.unusedVariables false

namespace Key
open Dsk (St)
theorem act_unarmed {d : St} (h : d.arm = none) : (Dsk.act d).1 = true := by unfold Dsk.act; rw [h]
/-- **PUT OF A FREE SLOT**: put, or the power goes. -/
theorem put_cases {K : Nat → Nat} {d : St} (h : KOn K d) (hu : d.up = true) {boot wr j c : Nat} (hs : Grd.Stm (Grd.stamp boot wr)) (hwr : wr < 4294967295) (hj : j < 8) (h0 : K j = 0) (hc : c ≠ 0) :
    ∃ (e : Int) (wr' : Nat) (d' : St), Ring.put boot wr d ((5 + j : Nat) : Int) (keyT c) = (e, wr', d') ∧ wr' ≤ wr + 1 ∧ d'.acts ≤ d.acts + 2 ∧ d'.falls ≤ d.falls + 1 ∧
      ((e = 8 ∧ d'.up = false ∧ KMid K j c d' ∧ d.arm ≠ none) ∨ (e = 0 ∧ d'.up = true ∧ KOn (upd K j c) d' ∧ (d.arm = none → d'.arm = none))) := by
  have hb : Slot c (Grd.grd (Grd.stamp boot wr) (keyT c)) := Or.inr ⟨hc, _, hs, rfl⟩
  have hrd : (Grd.read d ((5 + j : Nat) : Int)).2.2 = 7 := by
    rcases h.read hu hj with ⟨_, e⟩ | ⟨k0, _⟩
    · rw [e]
    · exact absurd h0 k0
  have hP : Grd.put boot wr d ((5 + j : Nat) : Int) (keyT c) = if (Dsk.write d ((5 + j : Nat) : Int) (Grd.grd (Grd.stamp boot wr) (keyT c))).1 ≠ 0 then (0, (Dsk.write d ((5 + j : Nat) : Int) (Grd.grd (Grd.stamp boot wr) (keyT c))).1, wr, (Dsk.write d ((5 + j : Nat) : Int) (Grd.grd (Grd.stamp boot wr) (keyT c))).2)
      else ((Grd.stamp boot wr : Int), 0, wr + 1, (Dsk.write d ((5 + j : Nat) : Int) (Grd.grd (Grd.stamp boot wr) (keyT c))).2) := by
    unfold Grd.put
    rw [if_neg (by rw [keyT_len]; decide), if_neg (by omega)]
  have hR : Ring.put boot wr d ((5 + j : Nat) : Int) (keyT c) = if (Grd.put boot wr d ((5 + j : Nat) : Int) (keyT c)).2.1 ≠ 0 then ((Grd.put boot wr d ((5 + j : Nat) : Int) (keyT c)).2.1, (Grd.put boot wr d ((5 + j : Nat) : Int) (keyT c)).2.2.1, (Grd.put boot wr d ((5 + j : Nat) : Int) (keyT c)).2.2.2)
      else ((Dsk.flush (Grd.put boot wr d ((5 + j : Nat) : Int) (keyT c)).2.2.2).1, (Grd.put boot wr d ((5 + j : Nat) : Int) (keyT c)).2.2.1, (Dsk.flush (Grd.put boot wr d ((5 + j : Nat) : Int) (keyT c)).2.2.2).2) := by
    unfold Ring.put
    rw [if_neg (by rw [keyT_len]; decide), if_neg (by rw [hu]; decide), if_neg (by rw [hrd]; decide)]
  have hun : d.arm = none → (Dsk.write d ((5 + j : Nat) : Int) (Grd.grd (Grd.stamp boot wr) (keyT c))).1 = 0 := fun ha => by
    have hl := h.len
    unfold Dsk.write
    rw [if_neg (by rw [hu]; decide), if_neg (by omega), if_neg (by rw [hb.len]; decide), if_neg (by rw [act_unarmed ha]; decide)]
  rcases write_flush h hu hj (Or.inl ⟨h0, hc⟩) hb _ rfl with ⟨r1, r2, r3, r4, r5⟩ | ⟨r1, r2, r3, r4, r5, r6⟩
  · rw [r1, if_pos (by decide)] at hP
    rw [hP, if_pos (show (8 : Int) ≠ 0 by decide)] at hR
    exact ⟨_, _, _, hR, Nat.le_succ _, by show (Dsk.write _ _ _).2.acts ≤ _; omega, by show (Dsk.write _ _ _).2.falls ≤ _; omega, Or.inl ⟨rfl, r2, r3.mid hj c, fun ha => by have := hun ha; omega⟩⟩
  · rw [r1, if_neg (by simp)] at hP
    rw [hP] at hR
    rw [if_neg (by simp)] at hR
    rcases r6 _ rfl with ⟨q1, q2, q3, q4, q5, q6⟩ | ⟨q1, q2, q3, q4, q5, q6⟩
    · dsimp only at hR
      rw [q1] at hR
      exact ⟨_, _, _, hR, Nat.le_refl _, q4, by omega, Or.inl ⟨rfl, q2, q3, fun ha => q6 (r5 ha)⟩⟩
    · dsimp only at hR
      rw [q1] at hR
      exact ⟨_, _, _, hR, Nat.le_refl _, by omega, by omega, Or.inr ⟨rfl, q2, q3, q6⟩⟩
theorem put_there {K : Nat → Nat} {d : St} (h : KOn K d) (hu : d.up = true) (boot wr : Nat) {j : Nat} (c : Nat) (hj : j < 8) (h0 : K j ≠ 0) : Ring.put boot wr d ((5 + j : Nat) : Int) (keyT c) = (25, wr, d) := by
  have hrd : (Grd.read d ((5 + j : Nat) : Int)).2.2 = 0 := by
    rcases h.read hu hj with ⟨k0, _⟩ | ⟨_, a, e⟩
    · exact absurd k0 h0
    · rw [e]
  unfold Ring.put
  rw [if_neg (by rw [keyT_len]; decide), if_neg (by rw [hu]; decide), if_pos (by rw [hrd]; decide)]
theorem put_arg (d : St) (boot wr : Nat) (a : Int) (s : List UInt8) (hs : s.length ≠ 32) : Ring.put boot wr d a s = (1, wr, d) := by
  unfold Ring.put
  rw [if_pos hs]
/-- **SHRED OF A KEY**: shredded, or the power goes. -/
theorem shred_cases {K : Nat → Nat} {d : St} (h : KOn K d) (hu : d.up = true) (sh : Nat) {j : Nat} (hj : j < 8) (h0 : K j ≠ 0) :
    ∃ (e : Int) (sh' : Nat) (d' : St), Ring.shred sh d ((5 + j : Nat) : Int) = (e, sh', d') ∧ d'.acts ≤ d.acts + 2 ∧ d'.falls ≤ d.falls + 1 ∧
      ((e = 8 ∧ d'.up = false ∧ KMid K j 0 d' ∧ d.arm ≠ none) ∨ (e = 0 ∧ sh' = sh + 1 ∧ d'.up = true ∧ KOn (upd K j 0) d' ∧ (d.arm = none → d'.arm = none))) := by
  have hb : Slot 0 Grd.noughts := Or.inl ⟨rfl, rfl⟩
  have hrd : (Grd.read d ((5 + j : Nat) : Int)).2.2 = 0 := by
    rcases h.read hu hj with ⟨k0, _⟩ | ⟨_, a, e⟩
    · exact absurd k0 h0
    · rw [e]
  have hR : Ring.shred sh d ((5 + j : Nat) : Int) = if (Dsk.write d ((5 + j : Nat) : Int) Grd.noughts).1 ≠ 0 then ((Dsk.write d ((5 + j : Nat) : Int) Grd.noughts).1, sh, (Dsk.write d ((5 + j : Nat) : Int) Grd.noughts).2)
      else if (Dsk.flush (Dsk.write d ((5 + j : Nat) : Int) Grd.noughts).2).1 ≠ 0 then ((Dsk.flush (Dsk.write d ((5 + j : Nat) : Int) Grd.noughts).2).1, sh, (Dsk.flush (Dsk.write d ((5 + j : Nat) : Int) Grd.noughts).2).2)
      else (0, sh + 1, (Dsk.flush (Dsk.write d ((5 + j : Nat) : Int) Grd.noughts).2).2) := by
    unfold Ring.shred
    rw [if_neg (by rw [hu]; decide), if_neg (by rw [hrd]; decide)]
  have hun : d.arm = none → (Dsk.write d ((5 + j : Nat) : Int) Grd.noughts).1 = 0 := fun ha => by
    have hl := h.len
    unfold Dsk.write
    rw [if_neg (by rw [hu]; decide), if_neg (by omega), if_neg (by rw [Grd.noughts_len]; decide), if_neg (by rw [act_unarmed ha]; decide)]
  rcases write_flush h hu hj (Or.inr ⟨h0, rfl⟩) hb _ rfl with ⟨r1, r2, r3, r4, r5⟩ | ⟨r1, r2, r3, r4, r5, r6⟩
  · rw [r1, if_pos (by decide)] at hR
    exact ⟨_, _, _, hR, by omega, by omega, Or.inl ⟨rfl, r2, r3.mid hj 0, fun ha => by have := hun ha; omega⟩⟩
  · rw [r1, if_neg (by simp)] at hR
    rcases r6 _ rfl with ⟨q1, q2, q3, q4, q5, q6⟩ | ⟨q1, q2, q3, q4, q5, q6⟩
    · rw [q1, if_pos (by decide)] at hR
      exact ⟨_, _, _, hR, q4, by omega, Or.inl ⟨rfl, q2, q3, fun ha => q6 (r5 ha)⟩⟩
    · rw [q1, if_neg (by simp)] at hR
      exact ⟨_, _, _, hR, by omega, by omega, Or.inr ⟨rfl, rfl, q2, q3, q6⟩⟩
theorem shred_free {K : Nat → Nat} {d : St} (h : KOn K d) (hu : d.up = true) (sh : Nat) {j : Nat} (hj : j < 8) (h0 : K j = 0) : Ring.shred sh d ((5 + j : Nat) : Int) = (0, sh, d) := by
  have hrd : (Grd.read d ((5 + j : Nat) : Int)).2.2 = 7 := by
    rcases h.read hu hj with ⟨_, e⟩ | ⟨k0, _⟩
    · rw [e]
    · exact absurd h0 k0
  unfold Ring.shred
  rw [if_neg (by rw [hu]; decide), if_pos hrd]
theorem shred_torn {K : Nat → Nat} {j : Nat} {d : St} (h : KTorn K j d) (hu : d.up = true) (ha : d.arm = none) (hj : j < 8) (sh : Nat) :
    ∃ d', Ring.shred sh d ((5 + j : Nat) : Int) = (0, sh + 1, d') ∧ d'.up = true ∧ d'.arm = none ∧ KOn (upd K j 0) d' ∧ d'.acts = d.acts + 2 ∧ d'.falls = d.falls := by
  obtain ⟨t, a, hr⟩ := h.read hu hj
  obtain ⟨d1, d2, e1, e2, e3, e4, e5, e6, e7⟩ := torn_shred h hu ha hj
  refine ⟨d2, ?_, e3, e4, e5, e6, e7⟩
  unfold Ring.shred
  rw [if_neg (by rw [hu]; decide), if_neg (by rw [hr]; show ¬ (17 : Int) = 7; decide), e1, if_neg (by simp), e2, if_neg (by simp)]
/-- What Get tells. -/
theorem got_free {K : Nat → Nat} {d : St} (h : KOn K d) (hu : d.up = true) {j : Nat} (hj : j < 8) (h0 : K j = 0) : Ring.got (Grd.read d ((5 + j : Nat) : Int)) = ([], 7) := by
  rcases h.read hu hj with ⟨_, e⟩ | ⟨k0, _⟩
  · rw [e]; rfl
  · exact absurd h0 k0
theorem got_key {K : Nat → Nat} {d : St} (h : KOn K d) (hu : d.up = true) {j : Nat} (hj : j < 8) (h0 : K j ≠ 0) : Ring.got (Grd.read d ((5 + j : Nat) : Int)) = (keyT (K j), 0) := by
  rcases h.read hu hj with ⟨k0, _⟩ | ⟨_, a, e⟩
  · exact absurd k0 h0
  · rw [e]
    unfold Ring.got
    rw [if_neg (by simp), if_neg (by rw [keyT_len]; decide)]
theorem got_torn {K : Nat → Nat} {j : Nat} {d : St} (h : KTorn K j d) (hu : d.up = true) (hj : j < 8) : Ring.got (Grd.read d ((5 + j : Nat) : Int)) = ([], 17) := by
  obtain ⟨t, a, e⟩ := h.read hu hj
  rw [e]
  rfl
theorem free_is {K : Nat → Nat} {d : St} (h : KOn K d) (hu : d.up = true) {j : Nat} (hj : j < 8) : ((Grd.read d ((5 + j : Nat) : Int)).2.2 == 7) = decide (K j = 0) := by
  rcases h.read hu hj with ⟨k0, e⟩ | ⟨k0, a, e⟩
  · rw [e, decide_eq_true k0]; rfl
  · rw [e, decide_eq_false k0]; rfl
/-! Keep -/
/-- The keys that are kept, of those below n. -/
def kept (K : Nat → Nat) (used : List Int) (n i : Nat) : Nat := if i < n ∧ (i : Int) ∉ used then 0 else K i
/-- How many slots are shredded, of those below n. -/
def gone (K : Nat → Nat) (used : List Int) : Nat → Nat
  | 0 => 0
  | n + 1 => gone K used n + if (n : Int) ∉ used ∧ K n ≠ 0 then 1 else 0
theorem gone_le (K : Nat → Nat) (used : List Int) : ∀ n, gone K used n ≤ n := by
  intro n
  induction n with
  | zero => exact Nat.le_refl _
  | succ n ih =>
    unfold gone
    split <;> omega
theorem kept_used {K : Nat → Nat} {used : List Int} {n : Nat} (h : (n : Int) ∈ used) (i : Nat) : kept K used (n + 1) i = kept K used n i := by
  unfold kept
  by_cases hi : i = n
  · subst hi
    rw [if_neg (fun x => x.2 h), if_neg (fun x => x.2 h)]
  · by_cases hc : i < n ∧ (i : Int) ∉ used
    · rw [if_pos hc, if_pos ⟨by omega, hc.2⟩]
    · rw [if_neg hc, if_neg (fun x => hc ⟨by omega, x.2⟩)]
theorem kept_next {K : Nat → Nat} {used : List Int} {n : Nat} (h : (n : Int) ∉ used) (i : Nat) : kept K used (n + 1) i = upd (kept K used n) n 0 i := by
  unfold kept upd
  by_cases hi : i = n
  · subst hi
    rw [if_pos ⟨Nat.lt_succ_self _, h⟩, if_pos rfl]
  · rw [if_neg hi]
    show (if i < n + 1 ∧ (i : Int) ∉ used then 0 else K i) = if i < n ∧ (i : Int) ∉ used then 0 else K i
    by_cases hc : i < n ∧ (i : Int) ∉ used
    · rw [if_pos hc, if_pos ⟨by omega, hc.2⟩]
    · rw [if_neg hc, if_neg (fun x => hc ⟨by omega, x.2⟩)]
theorem kept_at {K : Nat → Nat} {used : List Int} {n : Nat} : kept K used n n = K n := by
  unfold kept
  rw [if_neg (fun x => absurd x.1 (Nat.lt_irrefl _))]
theorem kept_le {K : Nat → Nat} {used : List Int} (n : Nat) (h : ∀ i, i < 8 → K i ≤ 200) : ∀ i, i < 8 → kept K used n i ≤ 200 := fun i hi => by
  unfold kept
  split
  · exact Nat.zero_le _
  · exact h i hi
/-- **KEEP**, on a disk that is not armed. -/
theorem keep_on {K : Nat → Nat} {used : List Int} : ∀ (n i sh : Nat) (d : St), i + n = 8 → KOn (kept K used i) d → d.up = true → d.arm = none →
    ∃ d', Ring.keepFrom used 5 8 n sh d = (0, sh + (gone K used 8 - gone K used i), d') ∧ gone K used i ≤ gone K used 8 ∧ KOn (kept K used 8) d' ∧ d'.up = true ∧ d'.arm = none ∧ d'.acts ≤ d.acts + 2 * n ∧ d'.falls ≤ d.falls + n := by
  intro n
  induction n with
  | zero =>
    intro i sh d hi h hu ha
    obtain rfl : i = 8 := by omega
    exact ⟨d, by rw [Ring.keepFrom_zero, Nat.sub_self]; rfl, Nat.le_refl _, h, hu, ha, Nat.le_refl _, Nat.le_refl _⟩
  | succ n ih =>
    intro i sh d hi h hu ha
    by_cases hus : (i : Int) ∈ used
    · have hg : gone K used (i + 1) = gone K used i := by
        conv => lhs; unfold gone
        rw [if_neg (fun x => x.1 hus)]; rfl
      obtain ⟨d', e1, e2, e3, e4, e5, e6, e7⟩ := ih (i + 1) sh d (by omega) (h.eq fun k hk => kept_used hus k) hu ha
      rw [hg] at e1 e2
      exact ⟨d', by rw [Ring.keepFrom_used sh d hi hus, e1], e2, e3, e4, e5, by omega, by omega⟩
    · have hi8 : i < 8 := by omega
      by_cases h0 : K i = 0
      · have hs := shred_free h hu sh hi8 (by rw [kept_at]; exact h0)
        have hg : gone K used (i + 1) = gone K used i := by
          conv => lhs; unfold gone
          rw [if_neg (fun x => x.2 h0)]; rfl
        have hk : KOn (kept K used (i + 1)) d := h.eq fun k hk => by
          rw [kept_next hus]
          unfold upd
          split
          · rename_i e; subst e; rw [kept_at, h0]
          · rfl
        obtain ⟨d', e1, e2, e3, e4, e5, e6, e7⟩ := ih (i + 1) sh d (by omega) hk hu ha
        rw [hg] at e1 e2
        exact ⟨d', by rw [Ring.keepFrom_next hi hus (by rw [hs]), hs, e1], e2, e3, e4, e5, by omega, by omega⟩
      · have hg : gone K used (i + 1) = gone K used i + 1 := by
          conv => lhs; unfold gone
          rw [if_pos ⟨hus, h0⟩]
        obtain ⟨e, sh', d1, hs, a1, a2, hc⟩ := shred_cases h hu sh hi8 (by rw [kept_at]; exact h0)
        rcases hc with ⟨_, _, _, c4⟩ | ⟨c1, c2, c3, c4, c5⟩
        · exact absurd ha c4
        · subst c1; subst c2
          obtain ⟨d', e1, e2, e3, e4, e5, e6, e7⟩ := ih (i + 1) (sh + 1) d1 (by omega) (c4.eq fun k hk => kept_next hus k) c3 (c5 ha)
          rw [hg] at e1 e2
          refine ⟨d', ?_, by omega, e3, e4, e5, by omega, by omega⟩
          rw [Ring.keepFrom_next hi hus (by rw [hs]), hs, e1]
          congr 2
          omega
end Key
end Go.Proofs.YthadcmbbdggneaaGreatDoor
