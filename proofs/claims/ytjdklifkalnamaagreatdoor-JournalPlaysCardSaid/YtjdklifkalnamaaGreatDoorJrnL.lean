/-
  The statement's calls, at both journals: up, or down.
-/
import Derived.Test.YtjdklifkalnamaaGreatDoorJrnAddW
import Derived.Test.YtjdklifkalnamaaGreatDoorJrnArg
namespace Go.Proofs.YtjdklifkalnamaaGreatDoor
open Go.RowKit
set_option linter.unusedVariables false

set_option maxRecDepth 100000
section
variable {K : Kp} {w0 w w' : World} {g bd mb gp b gj A F : Nat}
theorem LUp.below (h : LUp K w0 w g bd mb gp b gj A F) (hb : Below w.heap.size w w') : LUp K w0 w' g bd mb gp b gj A F := by
  obtain ⟨J, v, wn, P, N, d, j1, j2, j3, j4, hU, ha, hf⟩ := h
  exact ⟨J, v, wn, P, N, d, j1, j2, j3, j4, hU.below hb, ha, hf⟩
theorem LDn.below (h : LDn K w0 w g bd mb gp b A F) (hb : Below w.heap.size w w') : LDn K w0 w' g bd mb gp b A F := by
  obtain ⟨v, P, N, d, hD, h1, ha, hf⟩ := h
  exact ⟨v, P, N, d, hD.below hb, h1, ha, hf⟩
theorem LUp.bel (h : LUp K w0 w g bd mb gp b gj A F) : Below w0.heap.size w0 w := by
  obtain ⟨J, v, wn, P, N, d, j1, j2, j3, j4, hU, ha, hf⟩ := h
  exact hU.jat.gw.bel
theorem LUp.b1 (h : LUp K w0 w g bd mb gp b gj A F) : 1 ≤ b := by
  obtain ⟨J, v, wn, P, N, d, j1, j2, j3, j4, hU, ha, hf⟩ := h
  exact hU.jat.gw.at_.lo
theorem LUp.wide {A' F' : Nat} (h : LUp K w0 w g bd mb gp b gj A F) (h1 : A ≤ A') (h2 : F ≤ F') : LUp K w0 w g bd mb gp b gj A' F' := by
  obtain ⟨J, v, wn, P, N, d, j1, j2, j3, j4, hU, ha, hf⟩ := h
  exact ⟨J, v, wn, P, N, d, j1, j2, j3, j4, hU, by omega, by omega⟩
theorem LDn.wide {A' F' : Nat} (h : LDn K w0 w g bd mb gp b A F) (h1 : A ≤ A') (h2 : F ≤ F') : LDn K w0 w g bd mb gp b A' F' := by
  obtain ⟨v, P, N, d, hD, h0, ha, hf⟩ := h
  exact ⟨v, P, N, d, hD, h0, by omega, by omega⟩
/-- A new block is kept. -/
theorem LUp.keep (h : LUp none w0 w g bd mb gp b gj A F) (t : TypeId) (cs : Array Value) : LUp (some (w.heap.size, t, cs)) w0 (w.alloc (.cells cs t)) g bd mb gp b gj A F := by
  obtain ⟨J, v, wn, P, N, d, j1, j2, j3, j4, hU, ha, hf⟩ := h
  have hb := (Below.refl w.heap.size w).alloc (Nat.le_refl _) (.cells cs t)
  obtain ⟨l1, l2⟩ := hU.pl.lt
  have l3 := hU.jat.lts
  exact ⟨J, v, wn, P, N, d, j1, j2, j3, j4, ⟨hU.jat.below hb, (hU.pl.below hb).keep (Has.made w t cs) (fun hk => by have := l3 _ hk; omega) (by omega) (fun e => by have := l2 _ e; omega)⟩, ha, hf⟩
theorem LUp.drop (h : LUp K w0 w g bd mb gp b gj A F) : LUp none w0 w g bd mb gp b gj A F := by
  obtain ⟨J, v, wn, P, N, d, j1, j2, j3, j4, hU, ha, hf⟩ := h
  exact ⟨J, v, wn, P, N, d, j1, j2, j3, j4, ⟨hU.jat, hU.pl.drop⟩, ha, hf⟩
theorem LUp.kept {o : Nat} {t : TypeId} {cs : Array Value} (h : LUp (some (o, t, cs)) w0 w g bd mb gp b gj A F) : Has w o t cs := by
  obtain ⟨J, v, wn, P, N, d, j1, j2, j3, j4, hU, ha, hf⟩ := h
  exact (hU.pl.kp o t cs rfl).1
theorem LDn.kept {o : Nat} {t : TypeId} {cs : Array Value} (h : LDn (some (o, t, cs)) w0 w g bd mb gp b A F) : Has w o t cs := by
  obtain ⟨v, P, N, d, hD, h1, ha, hf⟩ := h
  exact (hD.pl.kp o t cs rfl).1
theorem lup_any (h : LUp K w0 w g bd mb gp b gj A F) : Calls Tryz.prog 11 #[.pointer (some ⟨g, 0, none⟩)] w fun r w' => r = .returned (.bool true) ∧ w = w' := by
  obtain ⟨J, v, wn, P, N, d, j1, j2, j3, j4, hU, ha, hf⟩ := h
  have := up_any hU.jat.gw.at_.disk
  rw [hU.jat.up.up, j2] at this
  exact this
theorem ldn_any (h : LDn K w0 w g bd mb gp b A F) : Calls Tryz.prog 11 #[.pointer (some ⟨g, 0, none⟩)] w fun r w' => r = .returned (.bool false) ∧ w = w' := by
  obtain ⟨v, P, N, d, hD, h1, ha, hf⟩ := h
  have := up_any hD.dsk
  rw [h1.up] at this
  exact this
theorem lholds_any (h : LUp K w0 w g bd mb gp b gj A F) : Calls Tryz.prog 14 #[.pointer (some ⟨gj, 0, none⟩), .pointer (some ⟨gp, 0, none⟩)] w fun e w' => e = .returned (.bool true) ∧ Below w.heap.size w w' := by
  obtain ⟨J, v, wn, P, N, d, j1, j2, j3, j4, hU, ha, hf⟩ := h
  obtain ⟨g1, g2, g3⟩ := Jrn.goes_short (Or.inl ⟨wn, hU.jat.up⟩)
  have := jholds_any hU.jat hU.pl.at_ (fun s hs => by have := g1 s hs; omega) g2
  rw [j1] at this
  exact this
theorem ladd_any (h : LUp K w0 w g bd mb gp b gj A F) (hA : A < 900000000000) (hF : F < 900000000000) (x : JOp) :
    Calls Tryz.prog 9 #[.pointer (some ⟨g, 0, none⟩), .pointer (some ⟨gj, 0, none⟩), .pointer (some ⟨gp, 0, none⟩), .agg #[.int .i64 x.kind, .int .i64 x.long, .int .u8 (x.c.toNat : Int), .int .u64 (x.f.keep : Int), .int .i64 x.f.tear]] w fun e w' =>
      e = .returned (.bool true) ∧ (LUp K w0 w' g bd mb gp b gj (A + 400) (F + 1) ∨ LDn K w0 w' g bd mb gp b (A + 400) (F + 1)) := by
  obtain ⟨J, v, wn, P, N, d, j1, j2, j3, j4, hU, ha, hf⟩ := h
  have := jadd_any hU (by omega) (by omega) x.kind x.long x.c x.f
  rw [j1, j2, j3, j4] at this
  refine this.mono (fun e w' hp => ⟨hp.1, ?_⟩)
  rcases hp.2 with hp | hp
  · exact Or.inl (hp.wide (Nat.add_le_add_right ha 400) (Nat.add_le_add_right hf 1))
  · exact Or.inr (hp.wide (Nat.add_le_add_right ha 400) (Nat.add_le_add_right hf 1))
theorem lagain_any (h : LUp K w0 w g bd mb gp b gj A F ∨ LDn K w0 w g bd mb gp b A F) (hb1 : 1 ≤ b) (hb : b + 1 ≤ 255) (hF : F < 900000000000) (f : Dsk.Fall) (hf : Fok f) :
    Calls Tryz.prog 12 #[.pointer (some ⟨g, 0, none⟩), .pointer (some ⟨gp, 0, none⟩), .agg #[.int .u64 (f.keep : Int), .int .i64 f.tear]] w fun e w' => ∃ gj', e = .returned (.pointer (some ⟨gj', 0, none⟩)) ∧ LUp K w0 w' g bd mb gp (b + 1) gj' A (F + 1) := by
  have key : ∃ (v : Value) (P N : List Jrn.Rec) (d : Dsk.St), DW K w0 w g bd mb gp v (Jrn.txts P N) P.length b d ∧ Jrn.Goes b P N d ∧ d.acts ≤ A ∧ d.falls ≤ F := by
    rcases h with h | h
    · obtain ⟨J, v, wn, P, N, d, j1, j2, j3, j4, hU, ha, hf⟩ := h
      have hD := hU.dw hU.jat.gw.at_.disk (Mv.refl _ _) hU.jat.gw.bel
      rw [j2, j3, j4] at hD
      exact ⟨v, P, N, d, hD, Or.inl ⟨wn, hU.jat.up⟩, ha, hf⟩
    · obtain ⟨v, P, N, d, hD, h1, ha, hf⟩ := h
      exact ⟨v, P, N, d, hD, Or.inr h1, ha, hf⟩
  obtain ⟨v, P, N, d, hD, hG, ha, hfl⟩ := key
  obtain ⟨g1, g2, g3⟩ := Jrn.goes_short hG
  have hle := Jrn.again_le d f
  refine (jagain_any hD hG hb1 hb (by omega) f hf (fun s hs => by have := g1 s hs; omega) g2).mono ?_
  rintro e w' ⟨J, L', v', j2, j3, j4, he, hU⟩
  exact ⟨J.gj, he, J, v', 0, L', [], _, rfl, j2, j3, j4, hU, by omega, by omega⟩
/-- Behind a flush: the journal's records last, the document's are not told yet. -/
def LFl (K : Kp) (w0 W : World) (g bd mb gp b gj A F : Nat) : Prop := ∃ (J : JB) (v : Value) (wn : Nat) (P N : List Jrn.Rec) (d : Dsk.St), J.gj = gj ∧ J.g = g ∧ J.bd = bd ∧ J.mb = mb ∧ UW K w0 W J gp v (Jrn.txts P N) P.length b b wn (P ++ N) [] d ∧ d.acts ≤ A ∧ d.falls ≤ F
theorem LFl.told (h : LFl K w0 w g bd mb gp b gj A F) : ∃ (a : Option Addr) (n cap : Nat), w.cell? ⟨gp, 0, none⟩ = some (.slice a n cap) ∧ (∃ x, w.cell? ⟨gp, 1, none⟩ = some x) ∧ w.frozen? ⟨gp, 1, none⟩ = false ∧ LUp K w0 (w.setCell ⟨gp, 1, none⟩ (.int .i64 (n : Int))) g bd mb gp b gj A F := by
  obtain ⟨J, v, wn, P, N, d, j1, j2, j3, j4, hU, ha, hf⟩ := h
  obtain ⟨c0, c1, _⟩ := hU.pl.at_.cs
  obtain ⟨a, cap, rfl, _⟩ := hU.pl.at_.row.any
  have ht : Jrn.txts (P ++ N) [] = Jrn.txts P N := by unfold Jrn.txts; rw [List.append_nil]
  have hn : (Jrn.txts P N).length = (P ++ N).length := by unfold Jrn.txts; rw [List.length_map]
  refine ⟨a, _, cap, c0, ⟨_, c1⟩, hU.pl.at_.has.free 1, J, .slice a (Jrn.txts P N).length cap, wn, P ++ N, [], d, j1, j2, j3, j4, ?_, ha, hf⟩
  rw [ht]
  have := hU.set 1 (.int .i64 ((Jrn.txts P N).length : Int)) (.slice a (Jrn.txts P N).length cap) (Jrn.txts P N) (P ++ N).length b (by rw [hn]; rfl) rfl hU.pl.at_.row
  exact this
theorem lflush_any (h : LUp K w0 w g bd mb gp b gj A F) (hA : A < 900000000000) (hF : F < 900000000000) :
    Calls Tryz.prog 10 #[.pointer (some ⟨gj, 0, none⟩)] w fun e w' => (e = .returned (.int .i64 0) ∧ LFl K w0 w' g bd mb gp b gj (A + 400) (F + 1)) ∨ (e = .returned (.int .i64 8) ∧ LDn K w0 w' g bd mb gp b (A + 400) (F + 1)) := by
  obtain ⟨J, v, wn, P, N, d, j1, j2, j3, j4, hU, ha, hf⟩ := h
  have := jflush_any hU.jat (by omega) (by omega)
  rw [j1] at this
  refine this.mono ?_
  rintro e w' ⟨c, rfl, hm, d', k1, k2, hd⟩
  rcases hd with ⟨rfl, J', wn', ho, hJ⟩ | ⟨rfl, hD, hb, hdn⟩
  · obtain ⟨o1, o2, o3, o4, o5, o6⟩ := id ho
    exact Or.inl ⟨rfl, J', v, wn', P, N, d', by rw [o1, j1], by rw [o3, j2], by rw [o4, j3], by rw [o5, j4], hU.on hJ hm ho, by omega, by omega⟩
  · refine Or.inr ⟨rfl, v, P, N, d', ?_, hdn, by omega, by omega⟩
    have := hU.dw hD hm hb
    rw [j2, j3, j4] at this
    exact this
theorem larm_any (h : LUp K w0 w g bd mb gp b gj A F) (n : Int) (h0 : 0 ≤ n) (hn : n ≤ 9223372036854775807) (f : Dsk.Fall) (hf : Fok f) :
    Calls Tryz.prog 13 #[.pointer (some ⟨g, 0, none⟩), .int .i64 n, .agg #[.int .u64 (f.keep : Int), .int .i64 f.tear]] w fun e w' => (∃ c, e = .returned (.int .i64 c)) ∧ LUp K w0 w' g bd mb gp b gj A F := by
  obtain ⟨J, v, wn, P, N, d, j1, j2, j3, j4, hU, ha, hfl⟩ := h
  have := arm_any hU.jat.gw.at_.disk n hn f hf
  have e : Dsk.armed d n f = (0, { d with arm := some (n.toNat, f) }) := by
    unfold Dsk.armed
    rw [if_neg (by rw [hU.jat.up.up]; decide), if_neg (by omega)]
  rw [e, j2, j3, j4] at this
  refine this.mono ?_
  rintro r w' ⟨rfl, hd, hm⟩
  rw [← j2, ← j3, ← j4] at hd hm
  refine ⟨⟨_, rfl⟩, J, v, wn, P, N, _, j1, j2, j3, j4, ⟨hU.jat.armed hd hm rfl hU.jat.up.up, hU.pl.mv (hm.wide (by unfold JB.all; simp))⟩, ha, hfl⟩
end
end Go.Proofs.YtjdklifkalnamaaGreatDoor
