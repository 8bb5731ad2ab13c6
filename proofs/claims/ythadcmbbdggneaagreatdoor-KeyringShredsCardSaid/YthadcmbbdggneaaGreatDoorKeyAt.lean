/-
  What a ring is to the statement's law: eight slots from the sector 5 on, behind w0.
-/
import Derived.Test.YthadcmbbdggneaaGreatDoorKeyLawA
import Derived.Test.YthadcmbbdggneaaGreatDoorKeyPures
import Derived.Test.YthadcmbbdggneaaGreatDoorGrdW
import Derived.Test.YthadcmbbdggneaaGreatDoorDskN
import Derived.Test.YthadcmbbdggneaaGreatDoorRingOne
namespace Go.Proofs.YthadcmbbdggneaaGreatDoor
open Go.RowKit
set_option linter.unusedVariables false

/-- A ring's blocks: itself, its guard, the disk's three. -/
structure RB where
  rb : Nat
  gg : Nat
  g : Nat
  bd : Nat
  mb : Nat
def RB.all (R : RB) : List Nat := [R.rb, R.gg, R.g, R.bd, R.mb]
/-- Behind w0 a ring was made. -/
structure RAt (w0 W : World) (R : RB) (b wn sh : Nat) (d : Dsk.St) : Prop where
  ring : RingAt W R.rb R.gg R.g R.bd R.mb b wn 5 8 sh d
  bel : Below w0.heap.size w0 W
  up : d.up = true
  los : ∀ k ∈ R.all, w0.heap.size ≤ k
section
variable {w0 w W W' : World} {R : RB} {b wn sh : Nat} {K : Nat → Nat} {d d' : Dsk.St}
theorem RAt.below (h : RAt w0 W R b wn sh d) (hb : Below W.heap.size W W') : RAt w0 W' R b wn sh d :=
  ⟨h.ring.below hb, h.bel.trans (hb.mono h.bel.size), h.up, h.los⟩
theorem RAt.lts (h : RAt w0 W R b wn sh d) : ∀ k ∈ R.all, k < W.heap.size := h.ring.lt
/-- What stands elsewhere has turned. -/
theorem RAt.apart {s : List Nat} (h : RAt w0 W R b wn sh d) (hm : Mv W W' s) (hs : ∀ k ∈ s, k ∉ R.all) (hl : ∀ k ∈ s, w0.heap.size ≤ k) : RAt w0 W' R b wn sh d := by
  have hn : ∀ k ∈ R.all, k ∉ s := fun k hk hx => hs k hx hk
  obtain ⟨r1, r2, r3, r4, r5, r6, r7, r8, r9⟩ := h.ring
  have n1 := hn R.rb (by unfold RB.all; simp)
  have n2 := hn R.gg (by unfold RB.all; simp)
  have n3 := hn R.g (by unfold RB.all; simp)
  have n4 := hn R.bd (by unfold RB.all; simp)
  have n5 := hn R.mb (by unfold RB.all; simp)
  exact ⟨⟨hm.has r1 n1, ⟨hm.has r2.cells n2, r2.disk.mv hm n3 n4 n5, r2.n1, r2.n2, r2.n3, r2.lo, r2.hi⟩, r3, r4, r5, r6, r7, r8, r9⟩, hm.below h.bel h.bel.size hl, h.up, h.los⟩
/-- The disk was armed, or calmed. -/
theorem RAt.armed (h : RAt w0 W R b wn sh d) (hd : DiskAt W' R.g R.bd R.mb d') (hm : Mv W W' [R.g, R.bd, R.mb]) (hu : d'.up = true) : RAt w0 W' R b wn sh d' :=
  ⟨h.ring.turn (h.ring.grd.turn hd hm) hm, hm.below h.bel h.bel.size (fun k hk => h.los k (by unfold RB.all; simp only [List.mem_cons, List.not_mem_nil, or_false] at hk ⊢; omega)), hu, h.los⟩
/-- What becomes of a ring whose call may end in a loss: c is what the slot j becomes. -/
def RDone (w0 W w' : World) (R : RB) (b wn sh sh' : Nat) (K : Nat → Nat) (j c : Nat) (d : Dsk.St) (e : Int) : Prop :=
  Mv W w' R.all ∧ ∃ d', d'.acts ≤ d.acts + 2 ∧ d'.falls ≤ d.falls + 1 ∧
    ((e = 0 ∧ ∃ wn', wn' ≤ wn + 1 ∧ RAt w0 w' R b wn' sh' d' ∧ Key.KOn (Key.upd K j c) d' ∧ (d.arm = none → d'.arm = none)) ∨
     (e = 8 ∧ DiskAt w' R.g R.bd R.mb d' ∧ Below w0.heap.size w0 w' ∧ d'.up = false ∧ Key.KMid K j c d' ∧ d.arm ≠ none))
theorem stm_of (h : RAt w0 W R b wn sh d) (hw : wn < 4294967295) : Grd.Stm (Grd.stamp b wn) := by
  have h1 := h.ring.grd.lo
  have h2 := h.ring.grd.hi
  unfold Grd.Stm Grd.stamp
  omega
theorem yput_any (h : RAt w0 w R b wn sh d) (hk : Key.KOn K d) (ha : d.acts < 900000000000) (hf : d.falls < 900000000000) (hw : wn < 1000000) {j c : Nat} (hj : j < 8) (h0 : K j = 0) (hc : c ≠ 0) :
    Calls Tryz.prog 24 #[.pointer (some ⟨R.rb, 0, none⟩), .int .i64 (j : Int), .string (S (Key.keyT c))] w fun e w' => ∃ c' : Int, e = .returned (.int .i64 c') ∧ RDone w0 w w' R b wn sh sh K j c d c' := by
  obtain ⟨e, wr', d', hp, q1, q2, q3, hcs⟩ := Key.put_cases hk h.up (boot := b) (wr := wn) (stm_of h (by omega)) (by omega) hj h0 hc
  have hq := rput_any h.ring hj (by omega) (by omega) (by omega) (Key.keyT c)
  rw [hp] at hq
  refine hq.mono ?_
  rintro e w' ⟨rfl, hr, hm⟩
  have hbel : Below w0.heap.size w0 w' := Mv.below (s := R.all) hm h.bel h.bel.size h.los
  refine ⟨_, rfl, hm, d', q2, q3, ?_⟩
  rcases hcs with ⟨rfl, u1, u2, u4⟩ | ⟨rfl, u1, u2, u3⟩
  · exact Or.inr ⟨rfl, hr.grd.disk, hbel, u1, u2, u4⟩
  · exact Or.inl ⟨rfl, wr', q1, ⟨hr, hbel, u1, h.los⟩, u2, u3⟩
theorem yput_there (h : RAt w0 w R b wn sh d) (hk : Key.KOn K d) (ha : d.acts < 900000000000) (hf : d.falls < 900000000000) (hw : wn < 1000000) {j c : Nat} (hj : j < 8) (h0 : K j ≠ 0) :
    Calls Tryz.prog 24 #[.pointer (some ⟨R.rb, 0, none⟩), .int .i64 (j : Int), .string (S (Key.keyT c))] w fun e w' => e = .returned (.int .i64 25) ∧ RAt w0 w' R b wn sh d ∧ Mv w w' R.all := by
  have hq := rput_any h.ring hj (by omega) (by omega) (by omega) (Key.keyT c)
  rw [Key.put_there hk h.up b wn c hj h0] at hq
  refine hq.mono ?_
  rintro e w' ⟨rfl, hr, hm⟩
  exact ⟨rfl, ⟨hr, Mv.below (s := R.all) hm h.bel h.bel.size h.los, h.up, h.los⟩, hm⟩
theorem yput_arg (h : RAt w0 w R b wn sh d) (ha : d.acts < 900000000000) (hf : d.falls < 900000000000) (hw : wn < 1000000) {j : Nat} (hj : j < 8) (s : List UInt8) (hs : s.length ≠ 32) :
    Calls Tryz.prog 24 #[.pointer (some ⟨R.rb, 0, none⟩), .int .i64 (j : Int), .string (S s)] w fun e w' => e = .returned (.int .i64 1) ∧ RAt w0 w' R b wn sh d ∧ Mv w w' R.all := by
  have hq := rput_any h.ring hj (by omega) (by omega) (by omega) s
  rw [Key.put_arg d b wn _ s hs] at hq
  refine hq.mono ?_
  rintro e w' ⟨rfl, hr, hm⟩
  exact ⟨rfl, ⟨hr, Mv.below (s := R.all) hm h.bel h.bel.size h.los, h.up, h.los⟩, hm⟩
theorem yput_range (h : RAt w0 w R b wn sh d) {i : Int} (hi : i < 0 ∨ 8 ≤ i) (s : List UInt8) :
    Calls Tryz.prog 24 #[.pointer (some ⟨R.rb, 0, none⟩), .int .i64 i, .string (S s)] w fun e w' => e = .returned (.int .i64 5) ∧ w = w' := rput_out h.ring hi (S s)
theorem yshred_any (h : RAt w0 w R b wn sh d) (hk : Key.KOn K d) (ha : d.acts < 900000000000) (hf : d.falls < 900000000000) (hsh : sh ≤ 1000000) {j : Nat} (hj : j < 8) (h0 : K j ≠ 0) :
    Calls Tryz.prog 25 #[.pointer (some ⟨R.rb, 0, none⟩), .int .i64 (j : Int)] w fun e w' => ∃ c' : Int, e = .returned (.int .i64 c') ∧ RDone w0 w w' R b wn sh (sh + 1) K j 0 d c' := by
  obtain ⟨e, sh', d', hp, q2, q3, hcs⟩ := Key.shred_cases hk h.up sh hj h0
  have hq := rshred_any h.ring hj (by omega) (by omega) (by omega)
  rw [hp] at hq
  refine hq.mono ?_
  rintro e w' ⟨rfl, hr, hm⟩
  have hbel : Below w0.heap.size w0 w' := Mv.below (s := R.all) hm h.bel h.bel.size h.los
  refine ⟨_, rfl, hm, d', q2, q3, ?_⟩
  rcases hcs with ⟨rfl, u1, u2, u4⟩ | ⟨rfl, rfl, u1, u2, u3⟩
  · exact Or.inr ⟨rfl, hr.grd.disk, hbel, u1, u2, u4⟩
  · exact Or.inl ⟨rfl, wn, Nat.le_succ _, ⟨hr, hbel, u1, h.los⟩, u2, u3⟩
theorem yshred_free (h : RAt w0 w R b wn sh d) (hk : Key.KOn K d) (ha : d.acts < 900000000000) (hf : d.falls < 900000000000) (hsh : sh ≤ 1000000) {j : Nat} (hj : j < 8) (h0 : K j = 0) :
    Calls Tryz.prog 25 #[.pointer (some ⟨R.rb, 0, none⟩), .int .i64 (j : Int)] w fun e w' => e = .returned (.int .i64 0) ∧ RAt w0 w' R b wn sh d ∧ Mv w w' R.all := by
  have hq := rshred_any h.ring hj (by omega) (by omega) (by omega)
  rw [Key.shred_free hk h.up sh hj h0] at hq
  refine hq.mono ?_
  rintro e w' ⟨rfl, hr, hm⟩
  exact ⟨rfl, ⟨hr, Mv.below (s := R.all) hm h.bel h.bel.size h.los, h.up, h.los⟩, hm⟩
theorem yshred_range (h : RAt w0 w R b wn sh d) {i : Int} (hi : i < 0 ∨ 8 ≤ i) :
    Calls Tryz.prog 25 #[.pointer (some ⟨R.rb, 0, none⟩), .int .i64 i] w fun e w' => e = .returned (.int .i64 5) ∧ w = w' := rshred_out h.ring hi
theorem yshred_torn {j : Nat} (h : RAt w0 w R b wn sh d) (hk : Key.KTorn K j d) (hj : j < 8) (harm : d.arm = none) (ha : d.acts < 900000000000) (hf : d.falls < 900000000000) (hsh : sh ≤ 1000000) :
    Calls Tryz.prog 25 #[.pointer (some ⟨R.rb, 0, none⟩), .int .i64 (j : Int)] w fun e w' => e = .returned (.int .i64 0) ∧ Mv w w' R.all ∧ ∃ d', d'.acts ≤ d.acts + 2 ∧ d'.falls = d.falls ∧ d'.arm = none ∧ RAt w0 w' R b wn (sh + 1) d' ∧ Key.KOn (Key.upd K j 0) d' := by
  obtain ⟨d', hp, u1, u2, u3, u4, u5⟩ := Key.shred_torn hk h.up harm hj sh
  have hq := rshred_any h.ring hj (by omega) (by omega) (by omega)
  rw [hp] at hq
  refine hq.mono ?_
  rintro e w' ⟨rfl, hr, hm⟩
  exact ⟨rfl, hm, d', by omega, u5, u2, ⟨hr, Mv.below (s := R.all) hm h.bel h.bel.size h.los, u1, h.los⟩, u3⟩
theorem yget_free (h : RAt w0 w R b wn sh d) (hk : Key.KOn K d) {j : Nat} (hj : j < 8) (h0 : K j = 0) :
    Calls Tryz.prog 29 #[.pointer (some ⟨R.rb, 0, none⟩), .int .i64 (j : Int)] w fun e w' => e = .returned (.tuple #[.string (S []), .int .i64 7]) ∧ Below w.heap.size w w' := by
  have hq := rget_any h.ring hj
  rw [Key.got_free hk h.up hj h0] at hq
  exact hq
theorem yget_key (h : RAt w0 w R b wn sh d) (hk : Key.KOn K d) {j : Nat} (hj : j < 8) (h0 : K j ≠ 0) :
    Calls Tryz.prog 29 #[.pointer (some ⟨R.rb, 0, none⟩), .int .i64 (j : Int)] w fun e w' => e = .returned (.tuple #[.string (S (Key.keyT (K j))), .int .i64 0]) ∧ Below w.heap.size w w' := by
  have hq := rget_any h.ring hj
  rw [Key.got_key hk h.up hj h0] at hq
  exact hq
theorem yget_torn {j : Nat} (h : RAt w0 w R b wn sh d) (hk : Key.KTorn K j d) (hj : j < 8) :
    Calls Tryz.prog 29 #[.pointer (some ⟨R.rb, 0, none⟩), .int .i64 (j : Int)] w fun e w' => e = .returned (.tuple #[.string (S []), .int .i64 17]) ∧ Below w.heap.size w w' := by
  have hq := rget_any h.ring hj
  rw [Key.got_torn hk h.up hj] at hq
  exact hq
theorem yfree_any (h : RAt w0 w R b wn sh d) (hk : Key.KOn K d) {j : Nat} (hj : j < 8) :
    Calls Tryz.prog 22 #[.pointer (some ⟨R.rb, 0, none⟩), .int .i64 (j : Int)] w fun e w' => e = .returned (.bool (decide (K j = 0))) ∧ Below w.heap.size w w' := by
  have hq := rfree_any h.ring hj
  rw [Key.free_is hk h.up hj] at hq
  exact hq
/-- The first slot from j on that is free. -/
def firstOf (K : Nat → Nat) : Nat → Option Nat
  | 0 => none
  | n + 1 => if K (7 - n) = 0 then some (7 - n) else firstOf K n
theorem firstOf_in (K : Nat → Nat) : ∀ n, Ring.firstIn (fun i => decide (K i = 0)) 8 n = firstOf K n := by
  intro n
  induction n with
  | zero => rfl
  | succ n ih =>
    rw [Ring.firstIn_succ, ih, show 8 - (n + 1) = 7 - n from by omega]
    show _ = if K (7 - n) = 0 then some (7 - n) else firstOf K n
    by_cases h : K (7 - n) = 0
    · rw [if_pos (decide_eq_true h), if_pos h]
    · rw [if_neg (by rw [decide_eq_false h]; decide), if_neg h]
theorem yfind_any (h : RAt w0 w R b wn sh d) (hk : Key.KOn K d) :
    Calls Tryz.prog 30 #[.pointer (some ⟨R.rb, 0, none⟩)] w fun e w' => e = .returned (findV (firstOf K 8)) ∧ Below w.heap.size w w' := by
  have hq := rfind_any h.ring (fun i => decide (K i = 0)) (fun i hi => Key.free_is hk h.up hi)
  rw [firstOf_in] at hq
  exact hq
theorem yslots_any (h : RAt w0 w R b wn sh d) :
    Calls Tryz.prog 21 #[.pointer (some ⟨R.rb, 0, none⟩)] w fun e w' => e = .returned (.int .i64 8) ∧ Below w.heap.size w w' :=
  (rslots_any h.ring).mono fun e w' ⟨he, hw⟩ => ⟨he, hw ▸ Below.refl _ _⟩
theorem yshreds_any (h : RAt w0 w R b wn sh d) :
    Calls Tryz.prog 32 #[.pointer (some ⟨R.rb, 0, none⟩)] w fun e w' => e = .returned (.int .i64 (sh : Int)) ∧ Below w.heap.size w w' :=
  (rshreds_any h.ring).mono fun e w' ⟨he, hw⟩ => ⟨he, hw ▸ Below.refl _ _⟩
theorem ykeep_any (h : RAt w0 w R b wn sh d) (hk : Key.KOn K d) (harm : d.arm = none) (ha : d.acts < 900000000000) (hf : d.falls < 900000000000) (hsh : sh ≤ 1000000) (used : List Int) (A : Option Addr) (cap : Nat) (hl : IL w R.all A used) (hc1 : used.length ≤ cap) (hc2 : cap ≤ 9223372036854775807) :
    Calls Tryz.prog 31 #[.pointer (some ⟨R.rb, 0, none⟩), .slice A used.length cap] w fun e w' => e = .returned (.tuple #[.int .i64 (Key.gone K used 8 : Int), .int .i64 0]) ∧ Mv w w' R.all ∧
      ∃ d', d'.acts ≤ d.acts + 16 ∧ d'.falls ≤ d.falls + 8 ∧ d'.arm = none ∧ RAt w0 w' R b wn (sh + Key.gone K used 8) d' ∧ Key.KOn (Key.kept K used 8) d' := by
  obtain ⟨d', e1, _, e3, e4, e5, e6, e7⟩ := Key.keep_on (K := K) (used := used) 8 0 sh d rfl (hk.eq fun i hi => by unfold Key.kept; rw [if_neg (fun x => absurd x.1 (Nat.not_lt_zero _))]) h.up harm
  have hq := rkeep_any h.ring used A cap hl hc1 hc2 (by omega) (by omega) (by omega)
  rw [show Key.gone K used 0 = 0 from rfl, Nat.sub_zero] at e1
  have hv : keepV sh (0, sh + Key.gone K used 8, d') = .tuple #[.int .i64 (Key.gone K used 8 : Int), .int .i64 0] := by
    unfold keepV
    rw [if_neg (by simp)]
    show Value.tuple #[.int .i64 (((sh + Key.gone K used 8 : Nat) : Int) - (sh : Int)), .int .i64 0] = _
    rw [show (((sh + Key.gone K used 8 : Nat) : Int) - (sh : Int)) = (Key.gone K used 8 : Int) from by omega]
  rw [e1, hv] at hq
  refine hq.mono ?_
  rintro e w' ⟨rfl, hr, hm⟩
  exact ⟨rfl, hm, d', by omega, by omega, e5, ⟨hr, Mv.below (s := R.all) hm h.bel h.bel.size h.los, e4, h.los⟩, e3⟩
/-- The law's own making. -/
theorem ymade_any {g bd mb : Nat} (h : DiskAt w g bd mb d) (hb0 : Below w0.heap.size w0 w) (hlo : ∀ k ∈ [g, bd, mb], w0.heap.size ≤ k) (hu : d.up = true) (hl : d.secs.length = 20) (hb : 1 ≤ b) (hb2 : b ≤ 2147483647) :
    Calls Tryz.prog 8 #[.pointer (some ⟨g, 0, none⟩), .int .i64 (b : Int)] w fun e w' => ∃ R : RB, R.g = g ∧ R.bd = bd ∧ R.mb = mb ∧ e = .returned (.pointer (some ⟨R.rb, 0, none⟩)) ∧ RAt w0 w' R b 0 0 d ∧ Below w.heap.size w w' ∧ ∀ k ∈ [R.rb, R.gg], w.heap.size ≤ k := by
  have HG := Lib.hid (gnew_any h b hb hb2)
  unfold NewGPost at HG
  have HR : Hid (∀ (W : World) (gg : Nat), GuardAt W gg g bd mb b 0 d → Calls Tryz.prog 20 #[.pointer (some ⟨gg, 0, none⟩), .int .i64 5, .int .i64 8] W (NewRPost W gg g bd mb b 0 5 8 d)) :=
    Lib.hid (fun W gg hg => rnew_any (base := 5) (slots := 8) hg (by decide) (by decide) (by omega) (by omega))
  unfold NewRPost at HR
  have H := Lib.hid (And.intro hb0 (And.intro hlo hu))
  clear h hb0 hlo hu hl hb hb2
  go_enter Tryz.func8, Tryz.ntmps8
  go_wp2_with fail
  refine HG.out.mono ?_
  rintro r w1 ⟨gg, rfl, hg, hb1, hgg⟩
  have H1 := Lib.hid (And.intro hg (And.intro hb1 hgg))
  clear hg hb1 hgg
  go_wp2_with fail
  refine (HR.out _ _ H1.out.1).mono ?_
  rintro r w2 ⟨rb, rfl, hr, hb2, hrb⟩
  have H2 := Lib.hid (And.intro hr (And.intro hb2 hrb))
  clear hr hb2 hrb
  go_wp2_with fail
  go_ret
  obtain ⟨a1, a2, a3⟩ := H.out
  obtain ⟨_, c2, c3⟩ := H1.out
  obtain ⟨d1, d2, d3⟩ := H2.out
  have hbel : Below w.heap.size w w2 := c2.trans (d2.mono c2.size)
  have s1 := c2.size
  have s2 := a1.size
  refine ⟨⟨rb, gg, g, bd, mb⟩, rfl, rfl, rfl, rfl, ⟨d1, a1.trans (hbel.mono a1.size), a3, ?_⟩, hbel, ?_⟩
  · intro k hk
    unfold RB.all at hk
    simp only [List.mem_cons, List.not_mem_nil, or_false] at hk
    rcases hk with rfl | rfl | hk
    · omega
    · omega
    · exact a2 k (by simp only [List.mem_cons, List.not_mem_nil, or_false]; exact hk)
  · intro k hk
    simp only [List.mem_cons, List.not_mem_nil, or_false] at hk
    rcases hk with rfl | rfl
    · omega
    · exact c3
end
end Go.Proofs.YthadcmbbdggneaaGreatDoor
