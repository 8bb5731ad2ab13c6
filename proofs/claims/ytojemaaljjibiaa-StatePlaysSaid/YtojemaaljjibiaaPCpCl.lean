/-
  CpCl: the texts StaCp, StaCl, StaQA in one.
-/
import Derived.Test.YtojemaaljjibiaaPStaTwo
import Derived.Test.YtojemaaljjibiaaPEvRefs
import Derived.Laws.AppendOwnNone
import Derived.Deep.QuietTactic
import Derived.WalkSpells
namespace Go.Proofs.Ytojemaaljjibiaa
open Go.RowKit
set_option linter.unusedVariables false

theorem ownS_slice {w : World} {B e s n : Nat} {v : Value} {xs : List Value} (h : w.ownsRow B e s v n xs) : ∃ A c, v = .slice A n c := by
  rcases h.2 with ⟨rfl, rfl⟩ | ⟨g, cap, cur, rfl, _⟩
  · exact ⟨_, _, rfl⟩
  · exact ⟨_, _, rfl⟩
theorem run_copy {P : Program} (w : World) (t ty e : TypeId) (i : TypeInfo) (z : Value) (size bytes : Nat) (ht : P.underlying t = some (.slice e)) (hi : P.info? e = some i) (hz : i.zero = some z)
    (hsize : i.size = size) (hby : i.bytes = bytes) (hzs : z.cells.size = size) (hsz : 0 < size) (hbb : bytes ≤ 1000) {A : Option Addr} {n : Nat} (c : Nat) {xs : List Value} (hl : xs.length = n * size) (hr : RowC w [] A xs) (h1 : ∀ u ∈ xs, u.oneCell' = true) (hn : n ≤ 1000000) :
    ∃ v' w', (Builtin.append_ #[t, t] ty #[.slice none 0 0, .slice A n c]).run P w = .ok v' w' ∧ w'.ownsRow w.heap.size e size v' n xs ∧ w.grownBy w' none := by
  by_cases hx : xs = []
  · subst hx
    have hn0 : n = 0 := by
      rcases Nat.mul_eq_zero.1 hl.symm with h | h
      · exact h
      · omega
    subst hn0
    refine ⟨.slice none 0 0, w, ?_, World.ownsRow_nil w _ e size, ⟨rfl, rfl, rfl, Nat.le_refl _, fun _ _ _ => rfl⟩⟩
    cases A <;> simp [Builtin.append_, run_underlying ht, sizeOf, typeInfo, hi, Builtin.lenOf, Builtin.firstCells, loadCells, loadCellsFrom]
  · obtain ⟨b, off, rfl, hb, _, hc⟩ := hr hx
    have hbn : (0 + n) * bytes ≤ 140737488355328 := by
      rw [Nat.zero_add]
      exact Nat.le_trans (Nat.mul_le_mul hn hbb) (by decide)
    obtain ⟨v', w', hrun, r1, r2, _⟩ := run_append_own (P := P) w w.heap.size t ty e i z size bytes ht hi hz hsize hby hzs hsz (.slice none 0 0) 0 [] (World.ownsRow_nil w _ _ _) ⟨b, off, none⟩ n c xs hl (fun j u hu => by rw [add_flat']; exact hc j u hu) h1 (by simp only [maxLen]; omega) hbn (Nat.le_refl _)
    rw [Nat.zero_add, List.nil_append] at r1
    exact ⟨v', w', hrun, r1, r2⟩
theorem wpList_copy {P : Program} {w : World} {ops : Array Oper} {rest : List Oper} {o : Oper} {a : Act} {Q : Exit → Act → World → Prop} (hgd : o.guard = none) (x : Operand) (t : TypeId)
    (ho : o.op = .call { callee := .builtin .append, args := #[.const (.slice none 0 0), x], argTypes := #[t, t] })
    (e : TypeId) (i : TypeInfo) (z : Value) (size bytes : Nat) (ht : P.underlying t = some (.slice e)) (hi : P.info? e = some i) (hz : i.zero = some z)
    (hsize : i.size = size) (hby : i.bytes = bytes) (hzs : z.cells.size = size) (hsz : 0 < size) (hbb : bytes ≤ 1000) (A : Option Addr) (n c : Nat) (xs : List Value) (hx : a.eval x = .slice A n c) (hl : xs.length = n * size) (hr : RowC w [] A xs) (h1 : ∀ u ∈ xs, u.oneCell' = true) (hn : n ≤ 1000000)
    (h : ∀ A' c' w', w'.ownsRow w.heap.size e size (.slice A' n c') n xs → w.grownBy w' none → wpList P ops Q rest (a.put o.dst (.slice A' n c')) w') : wpList P ops Q (o :: rest) a w := by
  refine wpList_plain hgd fun K hK => ?_
  obtain ⟨v', w', hrun, h2, h3⟩ := run_copy w t o.type e i z size bytes ht hi hz hsize hby hzs hsz hbb c hl hr h1 hn
  obtain ⟨A', c', rfl⟩ := ownS_slice h2
  unfold Oper.wp execOp
  simp only [ho, resolve, invoke, builtin, Sem.run_bind, Sem.run_pure, Result.andThen_ok, List.map_toArray, List.map_cons, List.map_nil, hx]
  rw [show a.eval (.const (.slice none 0 0)) = .slice none 0 0 from rfl, hrun]
  exact hK _ _ (h A' c' w' h2 h3)
theorem svs_one (L : List Slp) : ∀ u ∈ svs L, u.oneCell' = true := by
  intro u hu
  unfold svs at hu
  obtain ⟨x, _, hx⟩ := List.mem_flatMap.1 hu
  unfold Slp.cs at hx
  simp only [List.mem_cons, List.not_mem_nil, or_false] at hx
  rcases hx with rfl | rfl | rfl | rfl <;> rfl
theorem tvs_one (L : List (List UInt8)) : ∀ u ∈ tvs L, u.oneCell' = true := by
  intro u hu
  unfold tvs at hu
  obtain ⟨x, _, rfl⟩ := List.mem_map.1 hu
  rfl
theorem tvs_len1 (L : List (List UInt8)) : (tvs L).length = L.length * 1 := by unfold tvs; rw [List.length_map, Nat.mul_one]
theorem grown_below {w w' : World} (h : w.grownBy w' none) : Below w.heap.size w w' := ⟨h.os, h.tape, h.output, h.size, fun i hi => h.block i hi (by simp)⟩

theorem stOnlySetRow (w : World) (g : Nat) (cs : Array Value) : Only w (w.setRow g cs) g := ⟨rfl, rfl, rfl, by simp, fun i hi hn => setRow_other w g i cs (fun e => hn (by rw [e]))⟩
/-- A paper whose rows are a call's own, behind size B. -/
structure NewX (B : Nat) (w : World) (x : EntX) : Prop where
  l : w.ownsRow B 51 4 (.slice x.A x.e.L.length x.ca) x.e.L.length (svs x.e.L)
  h : w.ownsRow B 9 1 (.slice x.B x.e.H.length x.cb) x.e.H.length (tvs x.e.H)
  nd : x.bl.Nodup
theorem NewX.own {B : Nat} {w : World} {x : EntX} (h : NewX B w x) : OwnX w x := ⟨own_low h.l (Nat.zero_le _), own_low h.h (Nat.zero_le _)⟩
theorem NewX.lo {B : Nat} {w : World} {x : EntX} (h : NewX B w x) : ∀ b ∈ x.bl, B ≤ b := fun b hb => by
  rcases List.mem_append.1 hb with hb | hb
  · exact (h.l.lt b (Option.mem_toList.1 hb)).1
  · exact (h.h.lt b (Option.mem_toList.1 hb)).1
theorem NewX.below {B : Nat} {w w' : World} {x : EntX} (h : NewX B w x) (hb : Below w.heap.size w w') : NewX B w' x := by
  have hk : ∀ b ∈ x.bl, w'.heap[b]? = w.heap[b]? := fun b hx => hb.block b (h.own.lt b hx)
  exact ⟨own_keepB h.l (fun b hx => hk b (List.mem_append.2 (Or.inl (Option.mem_toList.2 hx)))), own_keepB h.h (fun b hx => hk b (List.mem_append.2 (Or.inr (Option.mem_toList.2 hx)))), h.nd⟩
theorem NewX.low {B B' : Nat} {w : World} {x : EntX} (h : NewX B w x) (hb : B' ≤ B) : NewX B' w x := ⟨own_low h.l hb, own_low h.h hb, h.nd⟩
theorem NewX.only {B g : Nat} {w w' : World} {x : EntX} (h : NewX B w x) (ho : Only w w' g) (hg : g < B) : NewX B w' x := by
  have hk : ∀ b ∈ x.bl, w'.heap[b]? = w.heap[b]? := fun b hx => ho.block b (h.own.lt b hx) (fun e => by have := h.lo b hx; injection e with e; omega)
  exact ⟨own_keepB h.l (fun b hx => hk b (List.mem_append.2 (Or.inl (Option.mem_toList.2 hx)))), own_keepB h.h (fun b hx => hk b (List.mem_append.2 (Or.inr (Option.mem_toList.2 hx)))), h.nd⟩
/-- What a row of one's own is, read. -/
theorem ownS_reads {w : World} {B e n k : Nat} {A : Option Addr} {c : Nat} {xs : List Value} (h : w.ownsRow B e n (.slice A k c) k xs) : (k ≤ c ∧ c ≤ 9223372036854775807) ∧ (k ≠ 0 → ∃ b, A = some ⟨b, 0, none⟩ ∧ b < w.heap.size ∧ B ≤ b ∧ ∀ j u, xs[j]? = some u → w.cell? ⟨b, j, none⟩ = some u) := by
  obtain ⟨hl, hh⟩ := id h
  rcases hh with ⟨e1, e2⟩ | ⟨g, cap, cur, e1, hBg, hg, hc, hcm, _⟩
  · injection e1 with _ _ e3
    exact ⟨⟨by rw [e2]; exact Nat.zero_le _, by rw [e3]; exact Nat.zero_le _⟩, fun h0 => absurd e2 h0⟩
  · injection e1 with e1 _ e3
    subst e3
    refine ⟨⟨hc, by simpa only [maxLen] using hcm⟩, fun _ => ⟨g, e1, (Array.getElem?_eq_some_iff.1 hg).1, hBg, fun j u hu => ?_⟩⟩
    have := h.cells (g := g) (by rw [e1]; rfl) j u hu
    rwa [add_flat', Nat.zero_add] at this
theorem ownS_row {w : World} {B e n k : Nat} {A : Option Addr} {c : Nat} {xs : List Value} {s : List Nat} (h : w.ownsRow B e n (.slice A k c) k xs) (hs : ∀ b, (Value.slice A k c).ownBlock = some b → b ∉ s) : RowC w s A xs := fun hx => by
  have hk : k ≠ 0 := fun h0 => hx (List.eq_nil_of_length_eq_zero (by rw [h.1, h0, Nat.zero_mul]))
  obtain ⟨b, rfl, hb, _, hc⟩ := (ownS_reads h).2 hk
  exact ⟨b, 0, rfl, hb, hs b rfl, fun j u hu => by rw [Nat.zero_add]; exact hc j u hu⟩
theorem OwnX.xin {w : World} {x : EntX} {s : List Nat} (h : OwnX w x) (hs : ∀ b ∈ x.bl, b ∉ s) : XIn w s x :=
  ⟨ownS_row h.l (fun b hb => hs b (List.mem_append.2 (Or.inl (Option.mem_toList.2 hb)))), ownS_row h.h (fun b hb => hs b (List.mem_append.2 (Or.inr (Option.mem_toList.2 hb)))), (ownS_reads h.l).1.1, (ownS_reads h.l).1.2, (ownS_reads h.h).1.1, (ownS_reads h.h).1.2⟩
theorem NewX.xin {B : Nat} {w : World} {x : EntX} {s : List Nat} (h : NewX B w x) (hs : ∀ b ∈ s, b < B) : XIn w s x := h.own.xin (fun b hb hx => by have := h.lo b hb; have := hs b hx; omega)

theorem cpSlInfo : (Try.prog.info? 51).map (fun i => (i.zero, i.size, i.bytes)) = some (some (.agg #[.string ⟨#[]⟩, .string ⟨#[]⟩, .string ⟨#[]⟩, .bool false]), 4, 56) := by kernel_rfl
theorem cpStrInfo : (Try.prog.info? 9).map (fun i => (i.zero, i.size, i.bytes)) = some (some (.string ⟨#[]⟩), 1, 16) := by kernel_rfl
/-- Two rows of a call's own lie in blocks of their own. -/
theorem NewX.of {w1 W1 w2 : World} {B : Nat} {x : EntX} (h1 : w1.ownsRow B 51 4 (.slice x.A x.e.L.length x.ca) x.e.L.length (svs x.e.L)) (hk : ∀ b, (Value.slice x.A x.e.L.length x.ca).ownBlock = some b → w2.heap[b]? = w1.heap[b]?)
    (h2 : w2.ownsRow W1.heap.size 9 1 (.slice x.B x.e.H.length x.cb) x.e.H.length (tvs x.e.H)) (hs : w1.heap.size ≤ W1.heap.size) (hB : B ≤ W1.heap.size) : NewX B w2 x := by
  refine ⟨own_keepB h1 hk, own_low h2 hB, ?_⟩
  unfold EntX.bl
  refine List.nodup_append.2 ⟨?_, ?_, fun a ha b hb => ?_⟩
  · cases (Value.slice x.A x.e.L.length x.ca).ownBlock <;> simp
  · cases (Value.slice x.B x.e.H.length x.cb).ownBlock <;> simp
  · have e1 := (h1.lt a (Option.mem_toList.1 ha)).2
    have e2 := (h2.lt b (Option.mem_toList.1 hb)).1
    omega
set_option maxRecDepth 100000 in
set_option maxHeartbeats 4000000 in
/-- A paper as it is kept is copied. -/
theorem copied_any {w : World} {e : Ent} {A B : Option Addr} {ca cb : Nat} (hin : EntIn w [] e A ca B cb) (hL : e.L.length ≤ 1000) (hH : e.H.length ≤ 1000) :
    Calls Try.prog 60 #[.agg #[.string (S e.id), .int .i64 e.cls, .int .i64 e.born, .int .i64 e.slot, .slice A e.L.length ca, .bool e.gone, .slice B e.H.length cb]] w fun r w' => ∃ x : EntX, r = .returned x.val ∧ x.e = e ∧ NewX w.heap.size w' x ∧ Below w.heap.size w w' := by
  obtain ⟨id, cls, born, slot, L, gone, H⟩ := e
  dsimp only at *
  have hup : Below w.heap.size w ((w.alloc (.cells #[.string (S id), .int .i64 cls, .int .i64 born, .int .i64 slot, .slice A L.length ca, .bool gone, .slice B H.length cb] 33)).alloc (.cells #[.string ⟨#[]⟩, .int .i64 0, .int .i64 0, .int .i64 0, .slice none 0 0, .bool false, .slice none 0 0] 33)) := entPair
  have hp := entTwo w 33 #[.string (S id), .int .i64 cls, .int .i64 born, .int .i64 slot, .slice A L.length ca, .bool gone, .slice B H.length cb] #[.string ⟨#[]⟩, .int .i64 0, .int .i64 0, .int .i64 0, .slice none 0 0, .bool false, .slice none 0 0]
  have hsz : ((w.alloc (.cells #[.string (S id), .int .i64 cls, .int .i64 born, .int .i64 slot, .slice A L.length ca, .bool gone, .slice B H.length cb] 33)).alloc (.cells #[.string ⟨#[]⟩, .int .i64 0, .int .i64 0, .int .i64 0, .slice none 0 0, .bool false, .slice none 0 0] 33)).heap.size = w.heap.size + 2 := by rw [asize, asize]
  have HIN := Lib.hid hin
  have HLH := Lib.hid (And.intro hL hH)
  clear hin hL hH
  obtain ⟨i0, hi0, hz0, hz1, hz2⟩ := info_parts cpSlInfo
  obtain ⟨j0, hj0, hy0, hy1, hy2⟩ := info_parts cpStrInfo
  have HI := Lib.hid (And.intro hi0 (And.intro hz0 (And.intro hz1 hz2)))
  have HJ := Lib.hid (And.intro hj0 (And.intro hy0 (And.intro hy1 hy2)))
  clear hi0 hz0 hz1 hz2 hj0 hy0 hy1 hy2
  go_enter Try.func60, Try.ntmps60
  go_upto_region 1 with fail
  generalize (w.alloc (.cells #[.string (S id), .int .i64 cls, .int .i64 born, .int .i64 slot, .slice A L.length ca, .bool gone, .slice B H.length cb] 33)).alloc (.cells #[.string ⟨#[]⟩, .int .i64 0, .int .i64 0, .int .i64 0, .slice none 0 0, .bool false, .slice none 0 0] 33) = W0 at hup hp hsz ⊢
  obtain ⟨b0, hq0⟩ : ∃ b0, w.heap.size = b0 := ⟨_, rfl⟩
  rw [hq0] at hp hsz ⊢
  have HP := Lib.hid hp
  have HU := Lib.hid hup
  have HS := Lib.hid (And.intro hq0 hsz)
  have c4 := hp.1.cell 4
  have f4 := hp.1.free 4
  clear hp hup hsz hq0
  go_wp2_with (at_builtin; refine wpList_copy rfl (.tmp 4) 30 rfl 51 i0 _ 4 56 Try.underlying30 HI.out.1 HI.out.2.1 HI.out.2.2.1 HI.out.2.2.2 rfl (by decide) (by decide) A L.length ca (svs L) rfl (svs_len L) ((HIN.out.below HU.out).rl) (svs_one L) (by have := HLH.out.1; omega) ?_)
  intro A1 c1 w1 hown1 hg1
  have hb1 := grown_below hg1
  have h1 := HP.out.1.below hb1 HP.out.1.lt
  have h2 := HP.out.2.below hb1 HP.out.2.lt
  have hs1 : W0.heap.size ≤ w1.heap.size := hb1.size
  have d4 := h1.cell 4
  have e4 := h1.free 4
  clear c4 f4
  go_upto_region 2 with fail
  have hA : Has (w1.setCell ⟨b0, 4, none⟩ (.slice A1 L.length c1)) b0 33 #[.string (S id), .int .i64 cls, .int .i64 born, .int .i64 slot, .slice A1 L.length c1, .bool gone, .slice B H.length cb] := h1.set 4 _
  have hB : Has (w1.setCell ⟨b0, 4, none⟩ (.slice A1 L.length c1)) (b0 + 1) 33 #[.string ⟨#[]⟩, .int .i64 0, .int .i64 0, .int .i64 0, .slice none 0 0, .bool false, .slice none 0 0] := (Only.set w1 b0 4 (.slice A1 L.length c1)).has h2 (by omega)
  have hU2 : Below w.heap.size w (w1.setCell ⟨b0, 4, none⟩ (.slice A1 L.length c1)) := (HU.out.trans (hb1.mono HU.out.size)).setCell (p := ⟨b0, 4, none⟩) (by have := HS.out.1; show w.heap.size ≤ b0; omega) _
  have hO2 : (w1.setCell ⟨b0, 4, none⟩ (.slice A1 L.length c1)).ownsRow W0.heap.size 51 4 (.slice A1 L.length c1) L.length (svs L) := own_keepB hown1 (fun g hg => Below.heap_setCell w1 ⟨b0, 4, none⟩ _ g fun e => by have := (hown1.lt _ hg).1; have := HS.out.2; have e1 : g = b0 := e; omega)
  have hs2 : W0.heap.size ≤ (w1.setCell ⟨b0, 4, none⟩ (.slice A1 L.length c1)).heap.size := by simpa using hs1
  clear h1 h2 d4 e4 hown1 hg1 hs1 hb1 HP HU
  generalize w1.setCell ⟨b0, 4, none⟩ (.slice A1 L.length c1) = w2 at hA hB hU2 hO2 hs2 ⊢
  have HA := Lib.hid (And.intro hA hB)
  have HU := Lib.hid hU2
  have HO := Lib.hid (And.intro hO2 hs2)
  have c6 := hA.cell 6
  have f6 := hA.free 6
  clear hA hB hU2 hO2 hs2
  go_wp2_with (at_builtin; refine wpList_copy rfl (.tmp 8) 31 rfl 9 j0 _ 1 16 Try.underlying31 HJ.out.1 HJ.out.2.1 HJ.out.2.2.1 HJ.out.2.2.2 rfl (by decide) (by decide) B H.length cb (tvs H) rfl (tvs_len1 H) ((HIN.out.below HU.out).rh) (tvs_one H) (by have := HLH.out.2; omega) ?_)
  intro B3 c3 w3 hown3 hg3
  have hb3 := grown_below hg3
  have h1 := HA.out.1.below hb3 HA.out.1.lt
  have h2 := HA.out.2.below hb3 HA.out.2.lt
  have d6 := h1.cell 6
  have e6 := h1.free 6
  clear c6 f6
  go_upto_region 3 with fail
  have hA : Has (w3.setCell ⟨b0, 6, none⟩ (.slice B3 H.length c3)) b0 33 #[.string (S id), .int .i64 cls, .int .i64 born, .int .i64 slot, .slice A1 L.length c1, .bool gone, .slice B3 H.length c3] := h1.set 6 _
  have hB : Has (w3.setCell ⟨b0, 6, none⟩ (.slice B3 H.length c3)) (b0 + 1) 33 #[.string ⟨#[]⟩, .int .i64 0, .int .i64 0, .int .i64 0, .slice none 0 0, .bool false, .slice none 0 0] := (Only.set w3 b0 6 (.slice B3 H.length c3)).has h2 (by omega)
  have hU4 : Below w.heap.size w (w3.setCell ⟨b0, 6, none⟩ (.slice B3 H.length c3)) := (HU.out.trans (hb3.mono HU.out.size)).setCell (p := ⟨b0, 6, none⟩) (by have := HS.out.1; show w.heap.size ≤ b0; omega) _
  have hO4 : (w3.setCell ⟨b0, 6, none⟩ (.slice B3 H.length c3)).ownsRow w2.heap.size 9 1 (.slice B3 H.length c3) H.length (tvs H) := own_keepB hown3 (fun g hg => Below.heap_setCell w3 ⟨b0, 6, none⟩ _ g fun e => by have := (hown3.lt _ hg).1; have := HS.out.2; have := HO.out.2; have e1 : g = b0 := e; omega)
  have hN : NewX W0.heap.size (w3.setCell ⟨b0, 6, none⟩ (.slice B3 H.length c3)) ⟨⟨id, cls, born, slot, L, gone, H⟩, A1, c1, B3, c3⟩ := by
    refine NewX.of (w1 := w2) (W1 := w2) HO.out.1 (fun b hb => ?_) hO4 (Nat.le_refl _) HO.out.2
    have hlt := HO.out.1.lt b hb
    rw [Below.heap_setCell _ _ _ _ (show b ≠ b0 from fun e => by have := HS.out.2; omega)]
    exact hb3.block b hlt.2
  clear h1 h2 d6 e6 hown3 hg3 hb3 HA HU HO hO4
  generalize w3.setCell ⟨b0, 6, none⟩ (.slice B3 H.length c3) = w4 at hA hB hU4 hN ⊢
  have HN := Lib.hid (And.intro hN hU4)
  clear hN hU4
  refine wp_region_lit ?_
  refine wpList_load_row rfl 33 (.tmp 1) rfl b0 ?e1 _ _ _ _ hA Try.underlying33 rfl entSize ?_
  case e1 => rfl
  refine wpList_store_row rfl 33 (.tmp 2) (.tmp 11) rfl (b0 + 1) #[.string (S id), .int .i64 cls, .int .i64 born, .int .i64 slot, .slice A1 L.length c1, .bool gone, .slice B3 H.length c3] ?e2 ?e3 _ _ hB entSize rfl (by simp [Value.oneCell']) ?_
  case e2 => rfl
  case e3 => rfl
  go_wp2_with fail
  have hs5 := HS.out
  refine ret_ent (p := 2) rfl (b0 + 1) #[.string (S id), .int .i64 cls, .int .i64 born, .int .i64 slot, .slice A1 L.length c1, .bool gone, .slice B3 H.length c3] rfl rfl (setRow_heap _ _ _ _ _ _ hB) rfl ?_
  exact ⟨⟨⟨id, cls, born, slot, L, gone, H⟩, A1, c1, B3, c3⟩, rfl, rfl, ((HN.out.1.only (stOnlySetRow _ (b0 + 1) _) (by omega)).low (by omega)), (stOnlySetRow _ (b0 + 1) _).below HN.out.2 HN.out.2.size (by omega)⟩
end Go.Proofs.Ytojemaaljjibiaa

namespace Go.Proofs.Ytojemaaljjibiaa
open Go.RowKit
set_option linter.unusedVariables false

/-- Three blocks made one after another. -/
theorem stThree (w : World) (T : TypeId) (cs1 cs2 cs3 : Array Value) : Has (((w.alloc (.cells cs1 T)).alloc (.cells cs2 T)).alloc (.cells cs3 T)) w.heap.size T cs1 ∧ Has (((w.alloc (.cells cs1 T)).alloc (.cells cs2 T)).alloc (.cells cs3 T)) (w.heap.size + 1) T cs2 ∧ Has (((w.alloc (.cells cs1 T)).alloc (.cells cs2 T)).alloc (.cells cs3 T)) (w.heap.size + 1 + 1) T cs3 := by
  obtain ⟨h1, h2⟩ := entTwo w T cs1 cs2
  have hb := (Below.refl _ ((w.alloc (.cells cs1 T)).alloc (.cells cs2 T))).alloc (Nat.le_refl _) (.cells cs3 T)
  refine ⟨h1.below hb h1.lt, h2.below hb h2.lt, ?_⟩
  have h3 := Has.made ((w.alloc (.cells cs1 T)).alloc (.cells cs2 T)) T cs3
  rw [asize, asize] at h3
  exact h3
theorem stSet (W : World) (b : Nat) (n : Nat) (v0 v1 v2 v3 v4 v5 v6 : Value) : Only W (((((((W.setCell ⟨b, n, none⟩ v0).setCell ⟨b, n + 1, none⟩ v1).setCell ⟨b, n + 2, none⟩ v2).setCell ⟨b, n + 3, none⟩ v3).setCell ⟨b, n + 4, none⟩ v4).setCell ⟨b, n + 5, none⟩ v5).setCell ⟨b, n + 6, none⟩ v6) b :=
  ((((((Only.set W b _ v0).trans (Only.set _ b _ v1)).trans (Only.set _ b _ v2)).trans (Only.set _ b _ v3)).trans (Only.set _ b _ v4)).trans (Only.set _ b _ v5)).trans (Only.set _ b _ v6)
theorem stSetHas {W : World} {b : Nat} {T : TypeId} {k u0 u1 u2 u3 u4 u5 u6 e0 e1 e2 e3 e4 e5 : Value} (h : Has W b T #[k, u0, u1, u2, u3, u4, u5, u6, e0, e1, e2, e3, e4, e5]) (v0 v1 v2 v3 v4 v5 v6 : Value) :
    Has (((((((W.setCell ⟨b, 1, none⟩ v0).setCell ⟨b, 2, none⟩ v1).setCell ⟨b, 3, none⟩ v2).setCell ⟨b, 4, none⟩ v3).setCell ⟨b, 5, none⟩ v4).setCell ⟨b, 6, none⟩ v5).setCell ⟨b, 7, none⟩ v6) b T #[k, v0, v1, v2, v3, v4, v5, v6, e0, e1, e2, e3, e4, e5] := by
  have := ((((((h.set 1 v0).set 2 v1).set 3 v2).set 4 v3).set 5 v4).set 6 v5).set 7 v6
  simpa using this
set_option maxRecDepth 100000 in
set_option maxHeartbeats 4000000 in
theorem cleanP_any {w : World} {v : Evt} {A B : Option Addr} {ca cb : Nat} (hin : EntIn w [] v.ent A ca B cb) (hk : v.kind = 1) (hL : v.ent.L.length ≤ 1000) (hH : v.ent.H.length ≤ 1000) :
    Calls Try.prog 40 #[v.val A ca B cb] w fun r w' => ∃ x : EntX, r = .returned ((Sta.paperE v.ent).val x.A x.ca x.B x.cb) ∧ x.e = v.ent ∧ NewX w.heap.size w' x ∧ Below w.heap.size w w' := by
  unfold Evt.val Sta.paperE
  have HC := Lib.hid (fun (W : World) (hb : Below w.heap.size w W) => copied_any (EntIn.at hin hb (s := []) (fun x hx => by cases hx)) hL hH)
  clear hin hL hH
  obtain ⟨kind, ⟨id, cls, born, slot, L, gone, H⟩, seq, idx, name, size, root, now⟩ := v
  dsimp only at *
  subst hk
  have hp := stThree w 37 (#[.int .i64 1, .string (S id), .int .i64 cls, .int .i64 born, .int .i64 slot, .slice A L.length ca, .bool gone, .slice B H.length cb, .int .i64 seq, .int .i64 idx, .string (S name), .int .i64 size, .string (S root), .int .i64 now]) (#[.int .i64 0, .string ⟨#[]⟩, .int .i64 0, .int .i64 0, .int .i64 0, .slice none 0 0, .bool false, .slice none 0 0, .int .i64 0, .int .i64 0, .string ⟨#[]⟩, .int .i64 0, .string ⟨#[]⟩, .int .i64 0]) (#[.int .i64 1, .string ⟨#[]⟩, .int .i64 0, .int .i64 0, .int .i64 0, .slice none 0 0, .bool false, .slice none 0 0, .int .i64 0, .int .i64 0, .string ⟨#[]⟩, .int .i64 0, .string ⟨#[]⟩, .int .i64 0])
  have hup : Below w.heap.size w (((w.alloc (.cells #[.int .i64 1, .string (S id), .int .i64 cls, .int .i64 born, .int .i64 slot, .slice A L.length ca, .bool gone, .slice B H.length cb, .int .i64 seq, .int .i64 idx, .string (S name), .int .i64 size, .string (S root), .int .i64 now] 37)).alloc (.cells #[.int .i64 0, .string ⟨#[]⟩, .int .i64 0, .int .i64 0, .int .i64 0, .slice none 0 0, .bool false, .slice none 0 0, .int .i64 0, .int .i64 0, .string ⟨#[]⟩, .int .i64 0, .string ⟨#[]⟩, .int .i64 0] 37)).alloc (.cells #[.int .i64 1, .string ⟨#[]⟩, .int .i64 0, .int .i64 0, .int .i64 0, .slice none 0 0, .bool false, .slice none 0 0, .int .i64 0, .int .i64 0, .string ⟨#[]⟩, .int .i64 0, .string ⟨#[]⟩, .int .i64 0] 37)) := (entPair (w := w)).alloc (by rw [asize, asize]; omega) _
  have hsz : (((w.alloc (.cells #[.int .i64 1, .string (S id), .int .i64 cls, .int .i64 born, .int .i64 slot, .slice A L.length ca, .bool gone, .slice B H.length cb, .int .i64 seq, .int .i64 idx, .string (S name), .int .i64 size, .string (S root), .int .i64 now] 37)).alloc (.cells #[.int .i64 0, .string ⟨#[]⟩, .int .i64 0, .int .i64 0, .int .i64 0, .slice none 0 0, .bool false, .slice none 0 0, .int .i64 0, .int .i64 0, .string ⟨#[]⟩, .int .i64 0, .string ⟨#[]⟩, .int .i64 0] 37)).alloc (.cells #[.int .i64 1, .string ⟨#[]⟩, .int .i64 0, .int .i64 0, .int .i64 0, .slice none 0 0, .bool false, .slice none 0 0, .int .i64 0, .int .i64 0, .string ⟨#[]⟩, .int .i64 0, .string ⟨#[]⟩, .int .i64 0] 37)).heap.size = w.heap.size + 3 := by rw [asize, asize, asize]
  go_enter Try.func40, Try.ntmps40
  go_upto_region 2 with fail
  generalize ((w.alloc (.cells #[.int .i64 1, .string (S id), .int .i64 cls, .int .i64 born, .int .i64 slot, .slice A L.length ca, .bool gone, .slice B H.length cb, .int .i64 seq, .int .i64 idx, .string (S name), .int .i64 size, .string (S root), .int .i64 now] 37)).alloc (.cells #[.int .i64 0, .string ⟨#[]⟩, .int .i64 0, .int .i64 0, .int .i64 0, .slice none 0 0, .bool false, .slice none 0 0, .int .i64 0, .int .i64 0, .string ⟨#[]⟩, .int .i64 0, .string ⟨#[]⟩, .int .i64 0] 37)).alloc (.cells #[.int .i64 1, .string ⟨#[]⟩, .int .i64 0, .int .i64 0, .int .i64 0, .slice none 0 0, .bool false, .slice none 0 0, .int .i64 0, .int .i64 0, .string ⟨#[]⟩, .int .i64 0, .string ⟨#[]⟩, .int .i64 0] 37) = W0 at hp hup hsz ⊢
  obtain ⟨b0, hq0⟩ : ∃ b0, w.heap.size = b0 := ⟨_, rfl⟩
  rw [hq0] at hp hsz ⊢
  obtain ⟨b1, hq1⟩ : ∃ b1, b0 + 1 = b1 := ⟨_, rfl⟩
  rw [hq1] at hp ⊢
  obtain ⟨b2, hq2⟩ : ∃ b2, b1 + 1 = b2 := ⟨_, rfl⟩
  rw [hq2] at hp ⊢
  have HP := Lib.hid hp
  have HU := Lib.hid hup
  have HS := Lib.hid (And.intro hq0 (And.intro hq1 (And.intro hq2 hsz)))
  have c0 := hp.1.cell 0
  have c1 := hp.1.cell 1
  have c2 := hp.1.cell 2
  have c3 := hp.1.cell 3
  have c4 := hp.1.cell 4
  have c5 := hp.1.cell 5
  have c6 := hp.1.cell 6
  have c7 := hp.1.cell 7
  clear hp hup hsz hq0 hq1 hq2
  go_wp2_with fail
  refine (HC.out _ HU.out).mono ?_
  rintro r w1 ⟨⟨⟨xid, xcls, xborn, xslot, xL, xgone, xH⟩, A1, cc1, B1, cd1⟩, rfl, he, hN, hb1⟩
  obtain ⟨rfl, rfl, rfl, rfl, rfl, rfl, rfl⟩ := (by injection he with e1 e2 e3 e4 e5 e6 e7; exact ⟨e1, e2, e3, e4, e5, e6, e7⟩ : xid = id ∧ xcls = cls ∧ xborn = born ∧ xslot = slot ∧ xL = L ∧ xgone = gone ∧ xH = H)
  clear c0 c1 c2 c3 c4 c5 c6 c7 he
  dsimp only [EntX.val]
  have h1 := HP.out.2.1.below hb1 HP.out.2.1.lt
  have h2 := HP.out.2.2.below hb1 HP.out.2.2.lt
  have d1 := h2.cell 1
  have f1 := h2.free 1
  have d2 := h2.cell 2
  have f2 := h2.free 2
  have d3 := h2.cell 3
  have f3 := h2.free 3
  have d4 := h2.cell 4
  have f4 := h2.free 4
  have d5 := h2.cell 5
  have f5 := h2.free 5
  have d6 := h2.cell 6
  have f6 := h2.free 6
  have d7 := h2.cell 7
  have f7 := h2.free 7
  have HO1 := Lib.hid (stSet w1 b2 1 (.string (S xid)) (.int .i64 xcls) (.int .i64 xborn) (.int .i64 xslot) (.slice A1 xL.length cc1) (.bool xgone) (.slice B1 xH.length cd1))
  have HA := Lib.hid (stSetHas h2 (.string (S xid)) (.int .i64 xcls) (.int .i64 xborn) (.int .i64 xslot) (.slice A1 xL.length cc1) (.bool xgone) (.slice B1 xH.length cd1))
  have HB := Lib.hid (HO1.out.has h1 (by have := HS.out.2.2.1; omega))
  have HN := Lib.hid (hN.only HO1.out (by have := HS.out; omega))
  have HW := Lib.hid (HO1.out.below (HU.out.trans (hb1.mono HU.out.size)) (Nat.le_trans HU.out.size hb1.size) (by have := HS.out; omega))
  clear h1 h2 hN hb1 HP HU HC
  go_upto_region 16 with fail
  generalize ((((((w1.setCell ⟨b2, 1, none⟩ (.string (S xid))).setCell ⟨b2, 2, none⟩ (.int .i64 xcls)).setCell ⟨b2, 3, none⟩ (.int .i64 xborn)).setCell ⟨b2, 4, none⟩ (.int .i64 xslot)).setCell ⟨b2, 5, none⟩ (.slice A1 xL.length cc1)).setCell ⟨b2, 6, none⟩ (.bool xgone)).setCell ⟨b2, 7, none⟩ (.slice B1 xH.length cd1) = w2 at HA HB HN HW ⊢
  refine wp_region_lit ?_
  refine wpList_load_row rfl 37 (.tmp 3) rfl b2 ?e1 _ _ _ _ HA.out Try.underlying37 rfl evtSize ?_
  case e1 => rfl
  refine wpList_store_row rfl 37 (.tmp 2) (.tmp 47) rfl b1 #[.int .i64 1, .string (S xid), .int .i64 xcls, .int .i64 xborn, .int .i64 xslot, .slice A1 xL.length cc1, .bool xgone, .slice B1 xH.length cd1, .int .i64 0, .int .i64 0, .string ⟨#[]⟩, .int .i64 0, .string ⟨#[]⟩, .int .i64 0] ?e2 ?e3 _ _ HB.out evtSize rfl (by simp [Value.oneCell']) ?_
  case e2 => rfl
  case e3 => rfl
  go_wp2_with fail
  refine ret_evt (p := 2) rfl b1 #[.int .i64 1, .string (S xid), .int .i64 xcls, .int .i64 xborn, .int .i64 xslot, .slice A1 xL.length cc1, .bool xgone, .slice B1 xH.length cd1, .int .i64 0, .int .i64 0, .string ⟨#[]⟩, .int .i64 0, .string ⟨#[]⟩, .int .i64 0] rfl rfl (setRow_heap _ _ _ _ _ _ HB.out) rfl ?_
  exact ⟨⟨⟨xid, xcls, xborn, xslot, xL, xgone, xH⟩, A1, cc1, B1, cd1⟩, rfl, rfl, ((HN.out.only (stOnlySetRow _ b1 _) (by have := HS.out; omega)).low (by have := HS.out; omega)), (stOnlySetRow _ b1 _).below HW.out HW.out.size (by have := HS.out; omega)⟩
set_option maxRecDepth 100000 in
set_option maxHeartbeats 4000000 in
/-- The event that adds a paper. -/
theorem added_any {w : World} {e : Ent} {A B : Option Addr} {ca cb : Nat} (hin : EntIn w [] e A ca B cb) (hL : e.L.length ≤ 1000) (hH : e.H.length ≤ 1000) :
    Calls Try.prog 44 #[.agg #[.string (S e.id), .int .i64 e.cls, .int .i64 e.born, .int .i64 e.slot, .slice A e.L.length ca, .bool e.gone, .slice B e.H.length cb]] w fun r w' => ∃ x : EntX, r = .returned ((Sta.paperE e).val x.A x.ca x.B x.cb) ∧ x.e = e ∧ NewX w.heap.size w' x ∧ Below w.heap.size w w' := by
  obtain ⟨id, cls, born, slot, L, gone, H⟩ := e
  dsimp only at *
  have HC := Lib.hid (fun (W : World) (hb : Below w.heap.size w W) => (show Calls Try.prog 40 #[.agg #[.int .i64 1, .string (S id), .int .i64 cls, .int .i64 born, .int .i64 slot, .slice A L.length ca, .bool gone, .slice B H.length cb, .int .i64 0, .int .i64 0, .string ⟨#[]⟩, .int .i64 0, .string ⟨#[]⟩, .int .i64 0]] W (fun r w' => ∃ x : EntX, r = .returned ((Sta.paperE ⟨id, cls, born, slot, L, gone, H⟩).val x.A x.ca x.B x.cb) ∧ x.e = ⟨id, cls, born, slot, L, gone, H⟩ ∧ NewX W.heap.size w' x ∧ Below W.heap.size W w') from cleanP_any (v := Sta.paperE ⟨id, cls, born, slot, L, gone, H⟩) (EntIn.at hin hb (s := []) (fun x hx => by cases hx)) rfl hL hH))
  have h1 := Has.made w 33 #[.string (S id), .int .i64 cls, .int .i64 born, .int .i64 slot, .slice A L.length ca, .bool gone, .slice B H.length cb]
  have hb1 := (Below.refl _ (w.alloc (.cells #[.string (S id), .int .i64 cls, .int .i64 born, .int .i64 slot, .slice A L.length ca, .bool gone, .slice B H.length cb] 33))).alloc (Nat.le_refl _) (.cells #[.int .i64 0, .string ⟨#[]⟩, .int .i64 0, .int .i64 0, .int .i64 0, .slice none 0 0, .bool false, .slice none 0 0, .int .i64 0, .int .i64 0, .string ⟨#[]⟩, .int .i64 0, .string ⟨#[]⟩, .int .i64 0] 37)
  have h1' := h1.below hb1 h1.lt
  have h2 := evtNew w (.cells #[.string (S id), .int .i64 cls, .int .i64 born, .int .i64 slot, .slice A L.length ca, .bool gone, .slice B H.length cb] 33) #[.int .i64 0, .string ⟨#[]⟩, .int .i64 0, .int .i64 0, .int .i64 0, .slice none 0 0, .bool false, .slice none 0 0, .int .i64 0, .int .i64 0, .string ⟨#[]⟩, .int .i64 0, .string ⟨#[]⟩, .int .i64 0]
  have hup : Below w.heap.size w ((w.alloc (.cells #[.string (S id), .int .i64 cls, .int .i64 born, .int .i64 slot, .slice A L.length ca, .bool gone, .slice B H.length cb] 33)).alloc (.cells #[.int .i64 0, .string ⟨#[]⟩, .int .i64 0, .int .i64 0, .int .i64 0, .slice none 0 0, .bool false, .slice none 0 0, .int .i64 0, .int .i64 0, .string ⟨#[]⟩, .int .i64 0, .string ⟨#[]⟩, .int .i64 0] 37)) := entPair
  have hsz : ((w.alloc (.cells #[.string (S id), .int .i64 cls, .int .i64 born, .int .i64 slot, .slice A L.length ca, .bool gone, .slice B H.length cb] 33)).alloc (.cells #[.int .i64 0, .string ⟨#[]⟩, .int .i64 0, .int .i64 0, .int .i64 0, .slice none 0 0, .bool false, .slice none 0 0, .int .i64 0, .int .i64 0, .string ⟨#[]⟩, .int .i64 0, .string ⟨#[]⟩, .int .i64 0] 37)).heap.size = w.heap.size + 2 := by rw [asize, asize]
  clear hin hL hH h1 hb1
  go_enter Try.func44, Try.ntmps44
  go_upto_region 1 with fail
  generalize (w.alloc (.cells #[.string (S id), .int .i64 cls, .int .i64 born, .int .i64 slot, .slice A L.length ca, .bool gone, .slice B H.length cb] 33)).alloc (.cells #[.int .i64 0, .string ⟨#[]⟩, .int .i64 0, .int .i64 0, .int .i64 0, .slice none 0 0, .bool false, .slice none 0 0, .int .i64 0, .int .i64 0, .string ⟨#[]⟩, .int .i64 0, .string ⟨#[]⟩, .int .i64 0] 37) = W0 at h1' h2 hup hsz ⊢
  obtain ⟨b0, hq0⟩ : ∃ b0, w.heap.size = b0 := ⟨_, rfl⟩
  rw [hq0] at h1' h2 hsz ⊢
  obtain ⟨b1, hq1⟩ : ∃ b1, b0 + 1 = b1 := ⟨_, rfl⟩
  rw [hq1] at h2 ⊢
  have HP := Lib.hid h2
  have HU := Lib.hid hup
  have HS := Lib.hid (And.intro hq0 (And.intro hq1 hsz))
  have c0 := h1'.cell 0
  have c1 := h1'.cell 1
  have c2 := h1'.cell 2
  have c3 := h1'.cell 3
  have c4 := h1'.cell 4
  have c5 := h1'.cell 5
  have c6 := h1'.cell 6
  clear h1' h2 hup hsz hq0 hq1
  go_wp2_with fail
  refine (HC.out _ HU.out).mono ?_
  rintro r w1 ⟨x, rfl, he, hN, hb1⟩
  obtain ⟨CS, e1, s1, o1⟩ := evtOpen (Sta.paperE ⟨id, cls, born, slot, L, gone, H⟩) x.A x.ca x.B x.cb
  rw [e1]
  have hB := HP.out.below hb1 HP.out.lt
  have HW := Lib.hid (HU.out.trans (hb1.mono HU.out.size))
  have HN := Lib.hid hN
  have HE := Lib.hid (And.intro he e1)
  clear c0 c1 c2 c3 c4 c5 c6 hb1 hN he e1 HP HU HC
  have HB := Lib.hid hB
  have HC2 := Lib.hid (And.intro s1 o1)
  clear hB s1 o1
  go_wp2_with (refine wpList_store_row rfl 37 (.tmp 2) (.tmp 5) rfl b1 CS ?e2 ?e3 _ _ HB.out (by rw [HC2.out.1]; exact evtSize) (by rw [HC2.out.1]; rfl) HC2.out.2 ?_; (case e2 => rfl); (case e3 => rfl))
  refine ret_evt (p := 2) rfl b1 CS rfl rfl (setRow_heap _ _ _ _ _ _ HB.out) HC2.out.1 ?_
  exact ⟨x, by rw [HE.out.2], HE.out.1, ((HN.out.only (stOnlySetRow _ b1 _) (by have := HS.out; omega)).low (by have := HS.out; omega)), (stOnlySetRow _ b1 _).below HW.out HW.out.size (by have := HS.out; omega)⟩
end Go.Proofs.Ytojemaaljjibiaa

namespace Go.Proofs.Ytojemaaljjibiaa
open Go.RowKit
set_option linter.unusedVariables false

section
variable {w : World} {q : Nat} {s ot : List Nat} {st : Sta} {n : Nat}
set_option maxRecDepth 100000 in
/-- Was the state made by New? -/
theorem works_has {c0 c2 c3 c4 : Value} {mb : Nat} (h : Has w q 58 #[c0, .map (some mb), c2, c3, c4]) :
    Calls Try.prog 34 #[.pointer (some ⟨q, 0, none⟩)] w fun r w' => r = .returned (.bool true) ∧ w' = w := by
  have y1 := h.cell 1
  have qT : ∀ (w : World) (r : Option Nat), (binOp .neq 56 (.map r) (.map none)).run Try.prog w = .ok (.bool (!r.isNone)) w := fun w r => run_neq_map_nil w _ _ _ r Try.underlying56
  clear h
  go_enter Try.func34, Try.ntmps34
  go_wp2_with fail
  go_ret
  exact ⟨rfl, rfl⟩
theorem StRep.made (w : World) : StRep ((w.alloc (.map #[] 0)).alloc (.cells #[.slice none 0 0, .map (some w.heap.size), .slice none 0 0, .int .i64 0, .int .i64 0] 58)) (w.heap.size + 1) [w.heap.size] [] [] 0 0 := by
  have h1 := Has.made (w.alloc (.map #[] 0)) 58 #[.slice none 0 0, .map (some w.heap.size), .slice none 0 0, .int .i64 0, .int .i64 0]
  rw [asize] at h1
  refine ⟨⟨none, 0, w.heap.size, none, 0, h1, World.ownsRow_nil _ _ _ _, World.ownsRow_nil _ _ _ _, (SeqM.made w).keep (Below.heap_alloc _ _ _ (by rw [asize]; omega)), rfl⟩, (fun x hx => by cases hx), ?_⟩
  simp
set_option maxRecDepth 100000 in
theorem stNew (w : World) (ot : List Nat) (hot : ∀ x ∈ ot, x < w.heap.size) :
    Calls Try.prog 9 #[] w fun r w' => ∃ q s, r = .returned (.pointer (some ⟨q, 0, none⟩)) ∧ StAt w' q s ot Sta.zero 0 ∧ (∀ x ∈ q :: s, w.heap.size ≤ x) ∧ Below w.heap.size w w' := by
  have HR := Lib.hid (StRep.made w)
  have HB : Hid (Below w.heap.size w ((w.alloc (.map #[] 0)).alloc (.cells #[.slice none 0 0, .map (some w.heap.size), .slice none 0 0, .int .i64 0, .int .i64 0] 58))) := Lib.hid entPair
  have HO := Lib.hid hot
  clear hot
  go_enter Try.func9, Try.ntmps9
  have hmm := @run_makeMap Try.prog
  go_wp2_with fail
  go_ret
  exact ⟨w.heap.size + 1, [w.heap.size], rfl, ⟨⟨[], rfl, HR.out⟩, fun x hx => Nat.lt_of_lt_of_le (HO.out x hx) HB.out.size⟩, by simp, HB.out⟩
theorem stLen (h : StAt w q s ot st n) (hI : Sta.Inv st) :
    Calls Try.prog 20 #[.pointer (some ⟨q, 0, none⟩)] w fun r w' => r = .returned (.int .i64 (st.P.length : Int)) ∧ Below w.heap.size w w' := by
  obtain ⟨⟨M, hM, hr⟩, -⟩ := h
  obtain ⟨A, ca, mb, B, cb, h1, -⟩ := hr.ex
  have hl : M.length = st.P.length := by rw [← hM, List.length_map]
  rw [hl] at h1
  have HW := Lib.hid (works_has h1)
  have y0 := h1.cell 0
  clear hr hM hl h1 hI
  go_enter Try.func20, Try.ntmps20
  go_wp2_with fail
  refine HW.out.mono ?_
  rintro r w1 ⟨rfl, rfl⟩
  go_wp2_with fail
  go_ret
  exact ⟨rfl, Below.refl _ _⟩
theorem stNow (h : StAt w q s ot st n) :
    Calls Try.prog 24 #[.pointer (some ⟨q, 0, none⟩)] w fun r w' => r = .returned (.int .i64 st.now) ∧ Below w.heap.size w w' := by
  obtain ⟨⟨M, hM, hr⟩, -⟩ := h
  obtain ⟨A, ca, mb, B, cb, h1, -⟩ := hr.ex
  have HW := Lib.hid (works_has h1)
  have y3 := h1.cell 3
  clear hr hM h1
  go_enter Try.func24, Try.ntmps24
  go_wp2_with fail
  refine HW.out.mono ?_
  rintro r w1 ⟨rfl, rfl⟩
  go_wp2_with fail
  go_ret
  exact ⟨rfl, Below.refl _ _⟩
theorem stEvents (h : StAt w q s ot st n) :
    Calls Try.prog 16 #[.pointer (some ⟨q, 0, none⟩)] w fun r w' => r = .returned (.int .i64 (n : Int)) ∧ Below w.heap.size w w' := by
  obtain ⟨⟨M, hM, hr⟩, -⟩ := h
  obtain ⟨A, ca, mb, B, cb, h1, -⟩ := hr.ex
  have HW := Lib.hid (works_has h1)
  have y4 := h1.cell 4
  clear hr hM h1
  go_enter Try.func16, Try.ntmps16
  go_wp2_with fail
  refine HW.out.mono ?_
  rintro r w1 ⟨rfl, rfl⟩
  go_wp2_with fail
  go_ret
  exact ⟨rfl, Below.refl _ _⟩
set_option maxRecDepth 100000 in
/-- Seq, whatever it is asked of. -/
theorem stSeq_any (h : StAt w q s ot st n) (id : List UInt8) (hl : id.length ≤ 1000) :
    Calls Try.prog 27 #[.pointer (some ⟨q, 0, none⟩), .string (S id)] w fun r w' => r = .returned (.tuple #[.int .i64 (((idI (st.P.map Ent.id) id).getD 0 : Nat) : Int), .int .i64 (if (idI (st.P.map Ent.id) id).isSome = true then 0 else 7)]) ∧ Below w.heap.size w w' := by
  obtain ⟨⟨M, hM, hr⟩, -⟩ := h
  obtain ⟨A, ca, mb, B, cb, h1, -, -, h4, -⟩ := hr.ex
  rw [ids_of hM] at h4
  have HW := Lib.hid (works_has h1)
  have y1 := h1.cell 1
  have hlook := h4.look id (by simp only [maxLen]; omega)
  clear hr hM h1 h4 hl
  generalize idI (st.P.map Ent.id) id = o at hlook ⊢
  cases o with
  | none =>
    have hlook2 : (Instr.lookup 56 (.map (some mb)) (.string (S id)) true).run Try.prog w = .ok (.tuple #[.int .i64 0, .bool false]) w := hlook
    clear hlook
    go_enter Try.func27, Try.ntmps27
    go_wp2_with fail
    refine HW.out.mono ?_
    rintro r w1 ⟨rfl, rfl⟩
    go_wp2_with fail
    go_ret2
    exact ⟨rfl, Below.refl _ _⟩
  | some k =>
    have hlook2 : (Instr.lookup 56 (.map (some mb)) (.string (S id)) true).run Try.prog w = .ok (.tuple #[.int .i64 (k : Int), .bool true]) w := hlook
    clear hlook
    go_enter Try.func27, Try.ntmps27
    go_wp2_with fail
    refine HW.out.mono ?_
    rintro r w1 ⟨rfl, rfl⟩
    go_wp2_with fail
    go_ret2
    exact ⟨rfl, Below.refl _ _⟩
end
end Go.Proofs.Ytojemaaljjibiaa
