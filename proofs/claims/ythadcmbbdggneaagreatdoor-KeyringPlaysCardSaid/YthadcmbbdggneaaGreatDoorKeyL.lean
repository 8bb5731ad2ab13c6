/-
  The statement's calls, at both rings: up, or down.
-/
import Derived.Test.YthadcmbbdggneaaGreatDoorKeyLaw
namespace Go.Proofs.YthadcmbbdggneaaGreatDoor
open Go.RowKit
set_option linter.unusedVariables false

set_option maxRecDepth 100000
/-- A ring, as the document's; so many acts, losses, writings, shreddings at most. -/
def LUp (P : Kp) (w0 W : World) (g bd mb gp b r A F N T : Nat) : Prop := ∃ (R : RB) (wn sh : Nat) (K : Nat → Nat) (d : Dsk.St), R.rb = r ∧ R.g = g ∧ R.bd = bd ∧ R.mb = mb ∧ KU P w0 W R gp b wn sh K d ∧ d.acts ≤ A ∧ d.falls ≤ F ∧ wn ≤ N ∧ sh ≤ T
/-- The same, with no loss armed. -/
def LUn (P : Kp) (w0 W : World) (g bd mb gp b r A F N T : Nat) : Prop := ∃ (R : RB) (wn sh : Nat) (K : Nat → Nat) (d : Dsk.St), R.rb = r ∧ R.g = g ∧ R.bd = bd ∧ R.mb = mb ∧ KU P w0 W R gp b wn sh K d ∧ d.acts ≤ A ∧ d.falls ≤ F ∧ wn ≤ N ∧ sh ≤ T ∧ d.arm = none
/-- The power has gone: the slot i was going to be c. -/
def LDn (P : Kp) (w0 W : World) (g bd mb gp b : Nat) (i : Int) (c A F : Nat) : Prop := ∃ (sh : Nat) (K : Nat → Nat) (j : Nat) (d : Dsk.St), i = (j : Int) ∧ KD P w0 W g bd mb gp b sh K j c d ∧ d.acts ≤ A ∧ d.falls ≤ F
/-- What becomes of a call. -/
def LOut (P : Kp) (w0 W : World) (g bd mb gp b r A F N T : Nat) (i : Int) (c : Nat) (e want : Int) : Prop := (e = want ∧ LUp P w0 W g bd mb gp b r A F N T) ∨ (e = 8 ∧ want = 0 ∧ LDn P w0 W g bd mb gp b i c A F)
section
variable {P : Kp} {w0 w w' : World} {g bd mb gp b r A F N T : Nat}
theorem LUp.below (h : LUp P w0 w g bd mb gp b r A F N T) (hb : Below w.heap.size w w') : LUp P w0 w' g bd mb gp b r A F N T := by
  obtain ⟨R, wn, sh, K, d, j1, j2, j3, j4, hU, q⟩ := h
  exact ⟨R, wn, sh, K, d, j1, j2, j3, j4, hU.below hb, q⟩
theorem LUn.up (h : LUn P w0 w g bd mb gp b r A F N T) : LUp P w0 w g bd mb gp b r A F N T := by
  obtain ⟨R, wn, sh, K, d, j1, j2, j3, j4, hU, q1, q2, q3, q4, _⟩ := h
  exact ⟨R, wn, sh, K, d, j1, j2, j3, j4, hU, q1, q2, q3, q4⟩
theorem LUp.bel (h : LUp P w0 w g bd mb gp b r A F N T) : Below w0.heap.size w0 w := by
  obtain ⟨R, wn, sh, K, d, j1, j2, j3, j4, hU, q⟩ := h
  exact hU.rt.bel
theorem LUp.b1 (h : LUp P w0 w g bd mb gp b r A F N T) : 1 ≤ b := by
  obtain ⟨R, wn, sh, K, d, j1, j2, j3, j4, hU, q⟩ := h
  exact hU.rt.ring.grd.lo
theorem LUp.wide {A' F' N' T' : Nat} (h : LUp P w0 w g bd mb gp b r A F N T) (h1 : A ≤ A') (h2 : F ≤ F') (h3 : N ≤ N') (h4 : T ≤ T') : LUp P w0 w g bd mb gp b r A' F' N' T' := by
  obtain ⟨R, wn, sh, K, d, j1, j2, j3, j4, hU, q1, q2, q3, q4⟩ := h
  exact ⟨R, wn, sh, K, d, j1, j2, j3, j4, hU, by omega, by omega, by omega, by omega⟩
theorem LDn.wide {i : Int} {c A' F' : Nat} (h : LDn P w0 w g bd mb gp b i c A F) (h1 : A ≤ A') (h2 : F ≤ F') : LDn P w0 w g bd mb gp b i c A' F' := by
  obtain ⟨sh, K, j, d, q0, q1, q2, q3⟩ := h
  exact ⟨sh, K, j, d, q0, q1, by omega, by omega⟩
/-- A new block is kept. -/
theorem LUp.keep (h : LUp none w0 w g bd mb gp b r A F N T) (t : TypeId) (cs : Array Value) : LUp (some (w.heap.size, t, cs)) w0 (w.alloc (.cells cs t)) g bd mb gp b r A F N T := by
  obtain ⟨R, wn, sh, K, d, j1, j2, j3, j4, hU, q⟩ := h
  have hb := (Below.refl w.heap.size w).alloc (Nat.le_refl _) (.cells cs t)
  have l3 := hU.rt.lts
  have l1 := hU.pl.has.lt
  refine ⟨R, wn, sh, K, d, j1, j2, j3, j4, ⟨hU.rt.below hb, hU.on, ⟨hU.pl.has.below hb l1, fun o t' cs' e => ?_⟩, hU.no, fun o t' cs' e hx => ?_, hU.lo, hU.kb⟩, q⟩
  · injection e with e
    injection e with e1 e
    injection e with e2 e3
    subst e1; subst e2; subst e3
    exact ⟨Has.made w _ _, by omega⟩
  · injection e with e
    injection e with e1 e
    subst e1
    have := l3 _ hx
    omega
theorem LUp.drop (h : LUp P w0 w g bd mb gp b r A F N T) : LUp none w0 w g bd mb gp b r A F N T := by
  obtain ⟨R, wn, sh, K, d, j1, j2, j3, j4, hU, q⟩ := h
  exact ⟨R, wn, sh, K, d, j1, j2, j3, j4, ⟨hU.rt, hU.on, ⟨hU.pl.has, fun o t cs e => (by cases e)⟩, hU.no, fun o t cs e => (by cases e), hU.lo, hU.kb⟩, q⟩
theorem LUp.kept {o : Nat} {t : TypeId} {cs : Array Value} (h : LUp (some (o, t, cs)) w0 w g bd mb gp b r A F N T) : Has w o t cs := by
  obtain ⟨R, wn, sh, K, d, j1, j2, j3, j4, hU, q⟩ := h
  exact (hU.pl.kp o t cs rfl).1
theorem LDn.kept {o : Nat} {t : TypeId} {cs : Array Value} {i : Int} {c : Nat} (h : LDn (some (o, t, cs)) w0 w g bd mb gp b i c A F) : Has w o t cs := by
  obtain ⟨sh, K, j, d, q0, q1, q2, q3⟩ := h
  exact (q1.pl.kp o t cs rfl).1
theorem LOut.kept {o : Nat} {t : TypeId} {cs : Array Value} {i : Int} {c : Nat} {e want : Int} (h : LOut (some (o, t, cs)) w0 w g bd mb gp b r A F N T i c e want) : Has w o t cs := by
  rcases h with ⟨_, h⟩ | ⟨_, _, h⟩
  · exact h.kept
  · exact h.kept
theorem lup_any (h : LUp P w0 w g bd mb gp b r A F N T) : Calls Tryz.prog 16 #[.pointer (some ⟨g, 0, none⟩)] w fun r w' => r = .returned (.bool true) ∧ w = w' := by
  obtain ⟨R, wn, sh, K, d, j1, j2, j3, j4, hU, q⟩ := h
  have := up_any hU.rt.ring.grd.disk
  rw [hU.rt.up, j2] at this
  exact this
theorem ldn_any {i : Int} {c : Nat} (h : LDn P w0 w g bd mb gp b i c A F) : Calls Tryz.prog 16 #[.pointer (some ⟨g, 0, none⟩)] w fun r w' => r = .returned (.bool false) ∧ w = w' := by
  obtain ⟨sh, K, j, d, q0, q1, q2, q3⟩ := h
  have := up_any q1.dk
  rw [q1.up] at this
  exact this
theorem lstands_any (h : LUp P w0 w g bd mb gp b r A F N T) : Calls Tryz.prog 17 #[.pointer (some ⟨r, 0, none⟩), .pointer (some ⟨gp, 0, none⟩)] w fun e w' => e = .returned (.bool true) ∧ Below w.heap.size w w' := by
  obtain ⟨R, wn, sh, K, d, j1, j2, j3, j4, hU, q⟩ := h
  have := kstands_any hU
  rw [j1] at this
  exact this
theorem lput_any (h : LUp P w0 w g bd mb gp b r A F N T) (hA : A < 900000000000) (hF : F < 900000000000) (hN : N < 1000000) (i : Int) {c : Nat} (hc : c ≠ 0) (hc2 : c ≤ 200) :
    Calls Tryz.prog 9 #[.pointer (some ⟨r, 0, none⟩), .pointer (some ⟨gp, 0, none⟩), .int .i64 i, .string (S (Key.keyT c)), .int .i64 (c : Int)] w fun e w' =>
      ∃ x y : Int, e = .returned (.tuple #[.int .i64 x, .int .i64 y]) ∧ LOut P w0 w' g bd mb gp b r (A + 2) (F + 1) (N + 1) T i c x y := by
  obtain ⟨R, wn, sh, K, d, j1, j2, j3, j4, hU, q1, q2, q3, q4⟩ := h
  subst j1; subst j2; subst j3; subst j4
  by_cases hi : i < 0 ∨ 8 ≤ i
  · exact (kput_range hU hi _ _).mono (fun e w' ⟨he, hu⟩ => ⟨5, 5, he, Or.inl ⟨rfl, R, wn, sh, K, d, rfl, rfl, rfl, rfl, hu, by omega, by omega, by omega, by omega⟩⟩)
  · obtain ⟨j, rfl⟩ : ∃ j : Nat, i = (j : Int) := ⟨i.toNat, by omega⟩
    have hj : j < 8 := by omega
    by_cases h0 : K j = 0
    · refine (kput_ok hU (by omega) (by omega) (by omega) hj h0 hc hc2).mono ?_
      rintro e w' ⟨d', a1, a2, hd⟩
      rcases hd with ⟨rfl, wn', a3, a4, _⟩ | ⟨rfl, a3⟩
      · exact ⟨0, 0, rfl, Or.inl ⟨rfl, R, wn', sh, _, d', rfl, rfl, rfl, rfl, a4, by omega, by omega, by omega, by omega⟩⟩
      · exact ⟨8, 0, rfl, Or.inr ⟨rfl, rfl, sh, K, j, d', rfl, a3, by omega, by omega⟩⟩
    · exact (kput_there hU (by omega) (by omega) (by omega) hj h0 c (c : Int)).mono (fun e w' ⟨he, hu⟩ => ⟨25, 25, he, Or.inl ⟨rfl, R, wn, sh, K, d, rfl, rfl, rfl, rfl, hu, by omega, by omega, by omega, by omega⟩⟩)
theorem lputNo_any (h : LUp P w0 w g bd mb gp b r A F N T) (hA : A < 900000000000) (hF : F < 900000000000) (hN : N < 1000000) (i : Int) (s : List UInt8) (hs : s.length ≠ 32) (hs2 : s.length ≤ 1000000) (c : Int) :
    Calls Tryz.prog 9 #[.pointer (some ⟨r, 0, none⟩), .pointer (some ⟨gp, 0, none⟩), .int .i64 i, .string (S s), .int .i64 c] w fun e w' =>
      ∃ x : Int, e = .returned (.tuple #[.int .i64 x, .int .i64 x]) ∧ LUp P w0 w' g bd mb gp b r A F N T := by
  obtain ⟨R, wn, sh, K, d, j1, j2, j3, j4, hU, q1, q2, q3, q4⟩ := h
  subst j1; subst j2; subst j3; subst j4
  by_cases hi : i < 0 ∨ 8 ≤ i
  · exact (kput_range hU hi _ _).mono (fun e w' ⟨he, hu⟩ => ⟨5, he, R, wn, sh, K, d, rfl, rfl, rfl, rfl, hu, by omega, by omega, by omega, by omega⟩)
  · obtain ⟨j, rfl⟩ : ∃ j : Nat, i = (j : Int) := ⟨i.toNat, by omega⟩
    exact (kput_arg hU (by omega) (by omega) (by omega) (by omega) s hs hs2 c).mono (fun e w' ⟨he, hu⟩ => ⟨1, he, R, wn, sh, K, d, rfl, rfl, rfl, rfl, hu, by omega, by omega, by omega, by omega⟩)
theorem lshred_any (h : LUp P w0 w g bd mb gp b r A F N T) (hA : A < 900000000000) (hF : F < 900000000000) (hT : T ≤ 1000000) (i : Int) :
    Calls Tryz.prog 11 #[.pointer (some ⟨r, 0, none⟩), .pointer (some ⟨gp, 0, none⟩), .int .i64 i] w fun e w' =>
      ∃ x y : Int, e = .returned (.tuple #[.int .i64 x, .int .i64 y]) ∧ LOut P w0 w' g bd mb gp b r (A + 2) (F + 1) (N + 1) (T + 1) i 0 x y := by
  obtain ⟨R, wn, sh, K, d, j1, j2, j3, j4, hU, q1, q2, q3, q4⟩ := h
  subst j1; subst j2; subst j3; subst j4
  by_cases hi : i < 0 ∨ 8 ≤ i
  · exact (kshred_range hU hi).mono (fun e w' ⟨he, hu⟩ => ⟨5, 5, he, Or.inl ⟨rfl, R, wn, sh, K, d, rfl, rfl, rfl, rfl, hu, by omega, by omega, by omega, by omega⟩⟩)
  · obtain ⟨j, rfl⟩ : ∃ j : Nat, i = (j : Int) := ⟨i.toNat, by omega⟩
    have hj : j < 8 := by omega
    by_cases h0 : K j = 0
    · exact (kshred_free hU (by omega) (by omega) (by omega) hj h0).mono (fun e w' ⟨he, hu⟩ => ⟨0, 0, he, Or.inl ⟨rfl, R, wn, sh, K, d, rfl, rfl, rfl, rfl, hu, by omega, by omega, by omega, by omega⟩⟩)
    · refine (kshred_ok hU (by omega) (by omega) (by omega) hj h0).mono ?_
      rintro e w' ⟨d', a1, a2, hd⟩
      rcases hd with ⟨rfl, wn', a3, a4, _⟩ | ⟨rfl, a3⟩
      · exact ⟨0, 0, rfl, Or.inl ⟨rfl, R, wn', sh + 1, _, d', rfl, rfl, rfl, rfl, a4, by omega, by omega, by omega, by omega⟩⟩
      · exact ⟨8, 0, rfl, Or.inr ⟨rfl, rfl, sh, K, j, d', rfl, a3, by omega, by omega⟩⟩
theorem lcalm_any (h : LUp P w0 w g bd mb gp b r A F N T) :
    Calls Tryz.prog 12 #[.pointer (some ⟨g, 0, none⟩)] w fun e w' => e = .returned (.tuple #[]) ∧ LUn P w0 w' g bd mb gp b r A F N T := by
  obtain ⟨R, wn, sh, K, d, j1, j2, j3, j4, hU, q1, q2, q3, q4⟩ := h
  subst j1; subst j2; subst j3; subst j4
  refine (calm_any hU.rt.ring.grd.disk).mono ?_
  rintro e w' ⟨rfl, hd, hm⟩
  refine ⟨rfl, R, wn, sh, K, _, rfl, rfl, rfl, rfl, ⟨hU.rt.armed hd hm hU.rt.up, hU.on.same rfl, hU.pl.mv (hm.wide (t := R.all) (by unfold RB.all; simp)) hU.no hU.nok, hU.no, hU.nok, hU.lo, hU.kb⟩, q1, q2, q3, q4, rfl⟩
theorem larm_any (h : LUp P w0 w g bd mb gp b r A F N T) (n : Int) (h0 : 0 ≤ n) (hn : n ≤ 9223372036854775807) (f : Dsk.Fall) (hf : Fok f) :
    Calls Tryz.prog 15 #[.pointer (some ⟨g, 0, none⟩), .int .i64 n, .agg #[.int .u64 (f.keep : Int), .int .i64 f.tear]] w fun e w' => (∃ c, e = .returned (.int .i64 c)) ∧ LUp P w0 w' g bd mb gp b r A F N T := by
  obtain ⟨R, wn, sh, K, d, j1, j2, j3, j4, hU, q1, q2, q3, q4⟩ := h
  subst j1; subst j2; subst j3; subst j4
  have hq := arm_any hU.rt.ring.grd.disk n hn f hf
  have e : Dsk.armed d n f = (0, { d with arm := some (n.toNat, f) }) := by
    unfold Dsk.armed
    rw [if_neg (by rw [hU.rt.up]; decide), if_neg (by omega)]
  rw [e] at hq
  refine hq.mono ?_
  rintro r w' ⟨rfl, hd, hm⟩
  refine ⟨⟨_, rfl⟩, R, wn, sh, K, _, rfl, rfl, rfl, rfl, ⟨hU.rt.armed hd hm hU.rt.up, hU.on.same rfl, hU.pl.mv (hm.wide (t := R.all) (by unfold RB.all; simp)) hU.no hU.nok, hU.no, hU.nok, hU.lo, hU.kb⟩, q1, q2, q3, q4⟩
theorem lkeep_any (h : LUn P w0 w g bd mb gp b r A F N T) (hA : A < 900000000000) (hF : F < 900000000000) (hT : T ≤ 1000000) (L : List Int) (Ad : Option Addr) (cap : Nat) (hl : IL w0 [] Ad L) (hc1 : L.length ≤ cap) (hc2 : cap ≤ 9223372036854775807) :
    Calls Tryz.prog 13 #[.pointer (some ⟨r, 0, none⟩), .pointer (some ⟨gp, 0, none⟩), .slice Ad L.length cap] w fun e w' =>
      e = .returned (.bool true) ∧ LUp P w0 w' g bd mb gp b r (A + 16) (F + 8) (N + 1) (T + 8) := by
  obtain ⟨R, wn, sh, K, d, j1, j2, j3, j4, hU, q1, q2, q3, q4, q5⟩ := h
  subst j1; subst j2; subst j3; subst j4
  refine (kkeep_any hU q5 (by omega) (by omega) (by omega) L Ad cap (hl.at hU.rt.bel (fun k hk => ?_)) hc1 hc2).mono ?_
  · rcases List.mem_cons.1 hk with rfl | hk
    · exact hU.lo
    · exact hU.rt.los k hk
  · rintro e w' ⟨rfl, d', sh', K', a1, a2, a3, a4⟩
    exact ⟨rfl, R, wn, sh', K', d', rfl, rfl, rfl, rfl, a4, by omega, by omega, by omega, by omega⟩
theorem lagain_up (h : LUp P w0 w g bd mb gp b r A F N T) (hb : b + 1 ≤ 2147483647) (hF : F < 900000000000) (f : Dsk.Fall) (hf : Fok f) :
    Calls Tryz.prog 14 #[.pointer (some ⟨g, 0, none⟩), .pointer (some ⟨gp, 0, none⟩), .agg #[.int .u64 (f.keep : Int), .int .i64 f.tear], .int .i64 (-1), .int .i64 0] w fun e w' =>
      ∃ r' : Nat, e = .returned (.pointer (some ⟨r', 0, none⟩)) ∧ LUp P w0 w' g bd mb gp (b + 1) r' (A + 2) (F + 1) 0 1 := by
  obtain ⟨R, wn, sh, K, d, j1, j2, j3, j4, hU, q1, q2, q3, q4⟩ := h
  subst j1; subst j2; subst j3; subst j4
  refine (kagain_up hU hb f hf (by omega)).mono ?_
  rintro e w' ⟨R', sh', K', d', a1, a2, a3, rfl, a4, a5, a6, a7⟩
  exact ⟨R'.rb, rfl, R', 0, sh', K', d', rfl, a1, a2, a3, a4, by omega, by omega, Nat.le_refl _, a5⟩
theorem lagain_dn {i : Int} {c : Nat} (h : LDn P w0 w g bd mb gp b i c A F) (hb1 : 1 ≤ b) (hb : b + 1 ≤ 2147483647) (hA : A < 900000000000) (hF : F < 900000000000) (f : Dsk.Fall) (hf : Fok f) :
    Calls Tryz.prog 14 #[.pointer (some ⟨g, 0, none⟩), .pointer (some ⟨gp, 0, none⟩), .agg #[.int .u64 (f.keep : Int), .int .i64 f.tear], .int .i64 i, .int .i64 (c : Int)] w fun e w' =>
      ∃ r' : Nat, e = .returned (.pointer (some ⟨r', 0, none⟩)) ∧ LUp P w0 w' g bd mb gp (b + 1) r' (A + 2) (F + 1) 0 1 := by
  obtain ⟨sh, K, j, d, rfl, q1, q2, q3⟩ := h
  refine (kagain_down q1 hb1 hb f hf (by omega) (by omega)).mono ?_
  rintro e w' ⟨R', sh', K', d', a1, a2, a3, rfl, a4, a5, a6, a7⟩
  exact ⟨R'.rb, rfl, R', 0, sh', K', d', rfl, a1, a2, a3, a4, by omega, by omega, Nat.le_refl _, a5⟩
end
end Go.Proofs.YthadcmbbdggneaaGreatDoor
