/-
  QNH: the texts StaQN, StaHp in one.
-/
import Derived.Test.YtojemaaljjibiaaPQKM
import Derived.Deep.AppendLies
import Derived.Test.YtojemaaljjibiaaPStaTwo
import Derived.Sort.KeysCollected
import Derived.Sort.Walk0
open List (setIfInBounds_toArray set_cons_zero set_cons_succ)
namespace Go.Proofs.Ytojemaaljjibiaa
open Go.RowKit
set_option linter.unusedVariables false

theorem wp_txt_append {op : Oper} {a : Act} {w : World} {K : Act → World → Prop} {Q : Exit → Act → World → Prop} (s x : Operand) (ho : op.op = .call { callee := .builtin .append, args := #[s, x], argTypes := #[31, 31] }) (t : Nat) (hd : op.dst = some t)
    (v : Value) (n : Nat) (h : List (List UInt8)) (hs : a.eval s = v) (hown : w.ownsRow 0 9 1 v n (tvs h)) (ad : Addr) (d : List UInt8) (hx : a.eval x = .slice (some ad) 1 1) (hnews : ∀ (j : Nat) (u : Value), [Value.string (S d)][j]? = some u → w.cell? (ad.add j) = some u) (hn : n ≤ 1000000)
    (hk : ∀ g cap w', w'.ownsRow 0 9 1 (.slice (some ⟨g, 0, none⟩) (n + 1) cap) (n + 1) (tvs (h ++ [d])) → w.grownBy w' v.ownBlock → (v.ownBlock = some g ∨ g = w.heap.size) → g < w'.heap.size → K (Act.at a t (.slice (some ⟨g, 0, none⟩) (n + 1) cap)) w') : op.wp Try.prog a w K Q := by
  obtain ⟨i0, hi0, hz0, hz1, hz2⟩ := info_parts cpStrInfo
  refine wp_append_lies _ s x 31 ho 0 9 i0 (.string ⟨#[]⟩) 1 16 Try.underlying31 hi0 hz0 hz1 hz2 rfl (by decide) v n (tvs h) hs hown ad 1 1 [Value.string (S d)] hx rfl hnews (by simp [Value.oneCell']) (by decide) (by simp only [maxLen]; omega) (by omega) (Nat.zero_le _) _ rfl ?_
  intro g cap' w3 h1 h2 h3 h4
  rw [hd]
  rw [tvs_snoc] at h1
  exact hk g cap' w3 h1 h2 h3 h4
section
variable {w : World} {q : Nat} {s : List Nat} {M : List EntX} {Q : List Pt} {now : Int} {n : Nat}
/-- What change reads of the names by which a paper is held. -/
abbrev ChT (b0 : Nat) (name : List UInt8) (W : World) : Prop := W.cell? ⟨b0, 10, none⟩ = some (.string (S name))
/-- A paper with other names by which it is held. -/
def heldX (x : EntX) (H : List (List UInt8)) (B : Option Addr) (cb : Nat) : EntX := ⟨{ x.e with H := H }, x.A, x.ca, B, cb⟩
/-- Behind a name more, and the order. -/
theorem StRep.holdRun (h : StRep w q s M Q now n) {ca0 mb be : Nat} {B0 : Option Addr} {cb0 : Nat} (h1 : Has w q 58 #[.slice (some ⟨be, 0, none⟩) M.length ca0, .map (some mb), .slice B0 Q.length cb0, .int .i64 now, .int .i64 (n : Int)]) {k : Nat} (hk : k < M.length) {name : List UInt8} {w3 : World} {g cap : Nat}
    (ho : w3.ownsRow 0 9 1 (.slice (some ⟨g, 0, none⟩) (M[k].e.H.length + 1) cap) (M[k].e.H.length + 1) (tvs (M[k].e.H ++ [name]))) (hg : w.grownBy w3 (Value.slice M[k].B M[k].e.H.length M[k].cb).ownBlock) (hat : (Value.slice M[k].B M[k].e.H.length M[k].cb).ownBlock = some g ∨ g = w.heap.size) :
    StStep w q s (M.set k (heldX M[k] (M[k].e.H ++ [name]) (some ⟨g, 0, none⟩) cap)) Q now n (w3.setCell ⟨be, k * 7 + 6, none⟩ (.slice (some ⟨g, 0, none⟩) (M[k].e.H.length + 1) cap)) ∧
    Has (w3.setCell ⟨be, k * 7 + 6, none⟩ (.slice (some ⟨g, 0, none⟩) (M[k].e.H.length + 1) cap)) q 58 #[.slice (some ⟨be, 0, none⟩) M.length ca0, .map (some mb), .slice B0 Q.length cb0, .int .i64 now, .int .i64 (n : Int)] ∧
    (w3.setCell ⟨be, k * 7 + 6, none⟩ (.slice (some ⟨g, 0, none⟩) (M[k].e.H.length + 1) cap)).ownsRow 0 9 1 (.slice (some ⟨g, 0, none⟩) (M[k].e.H.length + 1) cap) (M[k].e.H.length + 1) (tvs (M[k].e.H ++ [name])) ∧
    (w3.cell? ⟨be, k * 7 + 6, none⟩ = some (.slice M[k].B M[k].e.H.length M[k].cb) ∧ w3.frozen? ⟨be, k * 7 + 6, none⟩ = false) := by
  obtain ⟨ap1, ap2, ap3, ap4⟩ := h.apart h1 hk
  have hlen : (M[k].e.H ++ [name]).length = M[k].e.H.length + 1 := by rw [List.length_append]; rfl
  have hBm : ∀ j, (Value.slice M[k].B M[k].e.H.length M[k].cb).ownBlock = some j → j ∈ M[k].bl := fun j hj => by unfold EntX.bl; exact List.mem_append.2 (Or.inr (Option.mem_toList.2 hj))
  have hgq : (Value.slice M[k].B M[k].e.H.length M[k].cb).ownBlock ≠ some q := fun e => ap3 (List.mem_cons_of_mem _ (hBm q e))
  have hgbe : (Value.slice M[k].B M[k].e.H.length M[k].cb).ownBlock ≠ some be := fun e => ap1 (hBm be e)
  have hne : g ≠ be := by
    rcases hat with e | e
    · exact fun e2 => hgbe (by rw [e, e2])
    · omega
  have hq3 : Has w3 q 58 _ := (hg.block q h1.lt (fun e => hgq e.symm)).trans h1
  have hx := h.xat h1 hk
  have hf := h.freeX h1 (by omega) (k * 7 + 6)
  have hbe3 := hg.block be ap4 (fun e => hgbe e.symm)
  refine ⟨?_, (Only.set w3 be (k * 7 + 6) _).has hq3 (fun e => ap3 (e ▸ List.mem_cons_self ..)), own_keepB ho (fun z hz => Below.heap_setCell w3 ⟨be, k * 7 + 6, none⟩ _ z (fun e => hne (by
    have e1 : g = z := by simpa [Value.ownBlock] using hz
    rw [e1]; exact e))), World.cell_block hbe3 hx.2.2.2.2.2.2, ?_⟩
  · have := h.turnH h1 hk (H2 := M[k].e.H ++ [name]) (B2 := some ⟨g, 0, none⟩) (cb2 := cap) hg (by rw [hlen]; exact ho) (fun z hz => by
      have e1 : g = z := by simpa [Value.ownBlock] using hz
      rw [← e1]
      exact hat.imp (fun h => h) (fun h => Nat.le_of_eq h.symm))
    rw [hlen] at this
    exact this
  · have : w3.frozen? ⟨be, k * 7 + 6, none⟩ = w.frozen? ⟨be, k * 7 + 6, none⟩ := by simp only [World.frozen?, hbe3]
    rw [this]; exact hf
/-- Behind a name more. -/
abbrev HeldAt (w : World) (q : Nat) (s : List Nat) (M : List EntX) (Q : List Pt) (now : Int) (n : Nat) (k : Nat) (hk : k < M.length) (name : List UInt8) (be ca0 mb : Nat) (B0 : Option Addr) (cb0 g cap : Nat) (w4 : World) : Prop :=
  StStep w q s (M.set k (heldX M[k] (M[k].e.H ++ [name]) (some ⟨g, 0, none⟩) cap)) Q now n w4 ∧ Has w4 q 58 #[.slice (some ⟨be, 0, none⟩) M.length ca0, .map (some mb), .slice B0 Q.length cb0, .int .i64 now, .int .i64 (n : Int)] ∧ w4.ownsRow 0 9 1 (.slice (some ⟨g, 0, none⟩) (M[k].e.H.length + 1) cap) (M[k].e.H.length + 1) (tvs (M[k].e.H ++ [name]))
theorem HeldAt.x6 {k : Nat} (hk : k < M.length) {name : List UInt8} {be ca0 mb : Nat} {B0 : Option Addr} {cb0 g cap : Nat} {w4 : World} (h : HeldAt w q s M Q now n k hk name be ca0 mb B0 cb0 g cap w4) : w4.cell? ⟨be, k * 7 + 6, none⟩ = some (.slice (some ⟨g, 0, none⟩) (M[k].e.H.length + 1) cap) := by
  obtain ⟨⟨s', r, -, -⟩, hq, -⟩ := h
  have hl : (M.set k (heldX M[k] (M[k].e.H ++ [name]) (some ⟨g, 0, none⟩) cap)).length = M.length := List.length_set
  rw [← hl] at hq
  have hk2 : k < (M.set k (heldX M[k] (M[k].e.H ++ [name]) (some ⟨g, 0, none⟩) cap)).length := by rw [hl]; exact hk
  have hg : (M.set k (heldX M[k] (M[k].e.H ++ [name]) (some ⟨g, 0, none⟩) cap))[k] = heldX M[k] (M[k].e.H ++ [name]) (some ⟨g, 0, none⟩) cap := List.getElem_set_self ..
  have hx := (r.xat hq hk2).2.2.2.2.2.2
  rw [hg] at hx
  have hll : (heldX M[k] (M[k].e.H ++ [name]) (some ⟨g, 0, none⟩) cap).e.H.length = M[k].e.H.length + 1 := by show (M[k].e.H ++ [name]).length = _; rw [List.length_append]; rfl
  rw [hll] at hx
  exact hx
theorem HeldAt.sorted {k : Nat} (hk : k < M.length) {name : List UInt8} {be ca0 mb : Nat} {B0 : Option Addr} {cb0 g cap : Nat} {w4 w5 : World} (h : HeldAt w q s M Q now n k hk name be ca0 mb B0 cb0 g cap w4)
    (ho : w5.ownsRow 0 9 1 (.slice (some ⟨g, 0, none⟩) (M[k].e.H.length + 1) cap) (M[k].e.H ++ [name]).length (tvs ((M[k].e.H ++ [name]).mergeSort leB))) (hg : w4.grownBy w5 (Value.slice (some ⟨g, 0, none⟩) (M[k].e.H.length + 1) cap).ownBlock) :
    StStep w q s (M.set k (heldX M[k] ((M[k].e.H ++ [name]).mergeSort leB) (some ⟨g, 0, none⟩) cap)) Q now n w5 := by
  obtain ⟨hst, hq, -⟩ := h
  refine hst.trans (fun s' r => ?_)
  have hl : (M.set k (heldX M[k] (M[k].e.H ++ [name]) (some ⟨g, 0, none⟩) cap)).length = M.length := List.length_set
  rw [← hl] at hq
  have hk2 : k < (M.set k (heldX M[k] (M[k].e.H ++ [name]) (some ⟨g, 0, none⟩) cap)).length := by rw [hl]; exact hk
  have hgt : (M.set k (heldX M[k] (M[k].e.H ++ [name]) (some ⟨g, 0, none⟩) cap))[k] = heldX M[k] (M[k].e.H ++ [name]) (some ⟨g, 0, none⟩) cap := List.getElem_set_self ..
  have hll : (M[k].e.H ++ [name]).length = M[k].e.H.length + 1 := by rw [List.length_append]; rfl
  have := r.turnH0 hq hk2 (H2 := (M[k].e.H ++ [name]).mergeSort leB) (w1 := w5) (by rw [hgt]; exact List.length_mergeSort _) (by
    rw [hgt]
    show w4.grownBy w5 (Value.slice (some ⟨g, 0, none⟩) (M[k].e.H ++ [name]).length cap).ownBlock
    exact hg) (by
    rw [hgt]
    show w5.ownsRow 0 _ 1 (.slice (some ⟨g, 0, none⟩) (M[k].e.H ++ [name]).length cap) (M[k].e.H ++ [name]).length _
    rw [hll]
    rw [hll] at ho
    exact ho)
  rw [List.set_set] at this
  simp only [hgt] at this
  exact this
set_option maxRecDepth 100000 in
set_option maxHeartbeats 8000000 in
theorem change4_any (h : StRep w q s M Q now n) {ca0 mb be : Nat} {B0 : Option Addr} {cb0 : Nat} (h1 : Has w q 58 #[.slice (some ⟨be, 0, none⟩) M.length ca0, .map (some mb), .slice B0 Q.length cb0, .int .i64 now, .int .i64 (n : Int)]) {k : Nat} (hk : k < M.length) (hH : M[k].e.H.length ≤ 1000) {v : Evt} (hv : v.kind = 4) (A : Option Addr) (ca : Nat) (B : Option Addr) (cb : Nat) :
    Calls Try.prog 41 #[.pointer (some ⟨be, k * 7, none⟩), v.val A ca B cb] w fun r w' => r = .returned (.tuple #[]) ∧ ∃ (B2 : Option Addr) (cb2 : Nat), StStep w q s (M.set k (heldX M[k] ((M[k].e.H ++ [v.name]).mergeSort leB) B2 cb2)) Q now n w' := by
  unfold Evt.val
  obtain ⟨kind, ⟨id, cls, born, slot, L, gone, H⟩, seq, idx, name, size, root, now2⟩ := v
  dsimp only at *
  subst hv
  have hba := stBox w (.cells #[.int .i64 4, .string (S id), .int .i64 cls, .int .i64 born, .int .i64 slot, .slice A L.length ca, .bool gone, .slice B H.length cb, .int .i64 seq, .int .i64 idx, .string (S name), .int .i64 size, .string (S root), .int .i64 now2] 37)
  have hbx := Has.made w 37 #[.int .i64 4, .string (S id), .int .i64 cls, .int .i64 born, .int .i64 slot, .slice A L.length ca, .bool gone, .slice B H.length cb, .int .i64 seq, .int .i64 idx, .string (S name), .int .i64 size, .string (S root), .int .i64 now2]
  have h1' := h1.below hba h1.lt
  have hr := h.mid hba
  have x6 := (hr.xat h1' hk).2.2.2.2.2.2
  have hbl := (hr.apart h1' hk).2.2.2
  have hox := (hr.own M[k] (List.getElem_mem hk)).h
  have HR := Lib.hid (And.intro (hr.mid (Below.refl _ _).drew) (And.intro (show Has (w.alloc (.cells #[.int .i64 4, .string (S id), .int .i64 cls, .int .i64 born, .int .i64 slot, .slice A L.length ca, .bool gone, .slice B H.length cb, .int .i64 seq, .int .i64 idx, .string (S name), .int .i64 size, .string (S root), .int .i64 now2] 37)).drew q _ _ from h1') (And.intro (show (w.alloc (.cells #[.int .i64 4, .string (S id), .int .i64 cls, .int .i64 born, .int .i64 slot, .slice A L.length ca, .bool gone, .slice B H.length cb, .int .i64 seq, .int .i64 idx, .string (S name), .int .i64 size, .string (S root), .int .i64 now2] 37)).drew.ownsRow _ _ _ _ _ _ from hox) (show (w.alloc (.cells #[.int .i64 4, .string (S id), .int .i64 cls, .int .i64 born, .int .i64 slot, .slice A L.length ca, .bool gone, .slice B H.length cb, .int .i64 seq, .int .i64 idx, .string (S name), .int .i64 size, .string (S root), .int .i64 now2] 37)).drew.cell? _ = _ from x6))))
  have HB := Lib.hid hba.drew
  have HHL := Lib.hid hH
  have HBN : Hid ((∀ j, (Value.slice M[k].B M[k].e.H.length M[k].cb).ownBlock = some j → j < w.heap.size) ∧ be < w.heap.size) := Lib.hid ⟨fun j hj => ((h.own M[k] (List.getElem_mem hk)).h.lt j hj).2, (h.apart h1 hk).2.2.2⟩
  have y0 := hbx.cell 0
  have y10 := hbx.cell 10
  have hblt := hbx.lt
  clear h h1 h1' hr hox hba hH hbx
  go_enter Try.func41, Try.ntmps41
  go_upto_region 1 with fail
  generalize w.alloc (.cells #[.int .i64 4, .string (S id), .int .i64 cls, .int .i64 born, .int .i64 slot, .slice A L.length ca, .bool gone, .slice B H.length cb, .int .i64 seq, .int .i64 idx, .string (S name), .int .i64 size, .string (S root), .int .i64 now2] 37) = W0 at *
  obtain ⟨b0, hq0⟩ : ∃ b0, w.heap.size = b0 := ⟨_, rfl⟩
  rw [hq0] at y0 y10 hblt ⊢
  have HQ0 := Lib.hid hq0
  clear hq0
  go_upto_region 12 with fail
  have hS : ChT b0 name W0.drew := y10
  have HLT : Hid (be < W0.drew.heap.size ∧ b0 < W0.drew.heap.size) := Lib.hid ⟨hbl, hblt⟩
  clear x6 y10 y0 hbl hblt
  refine wp_region_held_drew (S := ChT b0 name) (by kernel_rfl) hS (fun hHeld => ?_)
  generalize W0.drew = wd at hS hHeld HR HB HLT ⊢
  first
  | (refine tkW (i := 0) (v := ?_) rfl rfl ?_ ?_; rotate_left; (focus (intro w hSw; (try dsimp only at hSw); go_simp; first | done | with_reducible rfl)); (simp only [Act.at, setIfInBounds_toArray, set_cons_zero, set_cons_succ]))
  | (refine tkU (i := 0) rfl rfl ?_; (simp only [Act.at, setIfInBounds_toArray, set_cons_zero, set_cons_succ]))
  first
  | (refine tkW (i := 1) (v := ?_) rfl rfl ?_ ?_; rotate_left; (focus (intro w hSw; (try dsimp only at hSw); go_simp; first | done | with_reducible rfl)); (simp only [Act.at, setIfInBounds_toArray, set_cons_zero, set_cons_succ]))
  | (refine tkU (i := 1) rfl rfl ?_; (simp only [Act.at, setIfInBounds_toArray, set_cons_zero, set_cons_succ]))
  first
  | (refine tkW (i := 2) (v := ?_) rfl rfl ?_ ?_; rotate_left; (focus (intro w hSw; (try dsimp only at hSw); go_simp; first | done | with_reducible rfl)); (simp only [Act.at, setIfInBounds_toArray, set_cons_zero, set_cons_succ]))
  | (refine tkU (i := 2) rfl rfl ?_; (simp only [Act.at, setIfInBounds_toArray, set_cons_zero, set_cons_succ]))
  first
  | (refine tkW (i := 3) (v := ?_) rfl rfl ?_ ?_; rotate_left; (focus (intro w hSw; (try dsimp only at hSw); go_simp; first | done | with_reducible rfl)); (simp only [Act.at, setIfInBounds_toArray, set_cons_zero, set_cons_succ]))
  | (refine tkU (i := 3) rfl rfl ?_; (simp only [Act.at, setIfInBounds_toArray, set_cons_zero, set_cons_succ]))
  first
  | (refine tkW (i := 5) (v := ?_) rfl rfl ?_ ?_; rotate_left; (focus (intro w hSw; (try dsimp only at hSw); go_simp; first | done | with_reducible rfl)); (simp only [Act.at, setIfInBounds_toArray, set_cons_zero, set_cons_succ]))
  | (refine tkU (i := 5) rfl rfl ?_; (simp only [Act.at, setIfInBounds_toArray, set_cons_zero, set_cons_succ]))
  first
  | (refine tkW (i := 6) (v := ?_) rfl rfl ?_ ?_; rotate_left; (focus (intro w hSw; (try dsimp only at hSw); go_simp; first | done | with_reducible rfl)); (simp only [Act.at, setIfInBounds_toArray, set_cons_zero, set_cons_succ]))
  | (refine tkU (i := 6) rfl rfl ?_; (simp only [Act.at, setIfInBounds_toArray, set_cons_zero, set_cons_succ]))
  refine takeTwo (i := 4) (j := 7) (by kernel_rfl) rfl rfl (by rfl) (by rfl) (fun K hK => ?_) (fun K hK => ?_)
  · have hsl := HR.out.2.2.2
    go_simp
    refine hK.out _ _ hS (fun hHeld => ?_)
    clear hK K hsl
    try simp only [Act.put, setIfInBounds_toArray, set_cons_zero, set_cons_succ]
    refine takeOne (i := 7) (by kernel_rfl) rfl (by rfl) (fun K hK => ?_)
    go_simp
    have hba := stBox wd (.cells #[.string (S name)] 9)
    have hS2 : ChT b0 name (wd.alloc (.cells #[.string (S name)] 9)) := (hba.cell (p := ⟨b0, 10, none⟩) HLT.out.2).trans hS
    have HMD := Lib.hid (cell_one_new wd (.string (S name)) 9)
    have HR2 := Lib.hid (And.intro (HR.out.1.mid hba) (And.intro (HR.out.2.1.below hba HR.out.2.1.lt) (HR.out.2.2.1.alloc (.cells #[.string (S name)] 9))))
    have HX2 : Hid ((wd.alloc (.cells #[.string (S name)] 9)).cell? ⟨be, k * 7 + 6, none⟩ = some (.slice M[k].B M[k].e.H.length M[k].cb)) := Lib.hid ((hba.cell (p := ⟨be, k * 7 + 6, none⟩) HLT.out.1).trans HR.out.2.2.2)
    have HB2 := Lib.hid (HB.out.trans (hba.mono HB.out.size))
    have HLT2 : Hid (b0 < (wd.alloc (.cells #[.string (S name)] 9)).heap.size) := Lib.hid (Nat.lt_of_lt_of_le HLT.out.2 hba.size)
    refine hK.out _ _ hS2 (fun hHeld => ?_)
    clear hK K
    try simp only [Act.put, setIfInBounds_toArray, set_cons_zero, set_cons_succ]
    clear hS HR HB hba
    obtain ⟨ab, hab⟩ : ∃ ab, wd.heap.size = ab := ⟨_, rfl⟩
    rw [hab] at HMD ⊢
    clear hab
    generalize wd.alloc (.cells #[.string (S name)] 9) = W2 at hS2 hHeld HMD HR2 HB2 HLT2 HX2 ⊢
    refine takeOne (i := 8) (by kernel_rfl) rfl (by rfl) (fun K hK => ?_)
    refine wp_txt_append (.tmp 44) (.tmp 47) rfl 48 rfl (.slice M[k].B M[k].e.H.length M[k].cb) M[k].e.H.length M[k].e.H rfl HR2.out.2.2 ⟨ab, 0, none⟩ name rfl HMD.out (by have := HHL.out; omega) ?_
    intro g cap w3 hown3 hg3 hgb3 hlt3
    obtain ⟨hst, hq4, ho4, hc6, hf6⟩ := HR2.out.1.holdRun HR2.out.2.1 hk hown3 hg3 hgb3
    have hgb0 : (Value.slice M[k].B M[k].e.H.length M[k].cb).ownBlock ≠ some b0 := fun e => by
      have h1 := HBN.out.1 b0 e
      have h2 := HQ0.out
      omega
    have hS3 : ChT b0 name w3 := World.cell_block (hg3.block b0 HLT2.out (fun e => hgb0 e.symm)) hS2
    have hS4 : ChT b0 name (w3.setCell ⟨be, k * 7 + 6, none⟩ (.slice (some ⟨g, 0, none⟩) (M[k].e.H.length + 1) cap)) := World.cell_block (Below.heap_setCell w3 ⟨be, k * 7 + 6, none⟩ _ b0 (fun e => by
      have h1 : b0 = be := e
      have h2 := HBN.out.2
      have h3 := HQ0.out
      omega)) hS3
    have HFIN := Lib.hid (And.intro (StStep.from HB2.out hst) (And.intro hq4 ho4))
    clear hown3 hg3 hgb3 hlt3 hst hq4 ho4 HR2 HMD HB2 hgb0 HX2 HLT2
    refine hK.out _ _ hS3 (fun hHeld => ?_)
    clear hK K
    try simp only [Act.put, setIfInBounds_toArray, set_cons_zero, set_cons_succ]
    simp only [Act.at, setIfInBounds_toArray, set_cons_zero, set_cons_succ]
    first
    | (refine tkW (i := 9) (v := ?_) rfl rfl ?_ ?_; rotate_left; (focus (intro w hSw; (try dsimp only at hSw); go_simp; first | done | with_reducible rfl)); (simp only [Act.at, setIfInBounds_toArray, set_cons_zero, set_cons_succ]))
    | (refine tkU (i := 9) rfl rfl ?_; (simp only [Act.at, setIfInBounds_toArray, set_cons_zero, set_cons_succ]))
    first
    | (refine tkW (i := 10) (v := ?_) rfl rfl ?_ ?_; rotate_left; (focus (intro w hSw; (try dsimp only at hSw); go_simp; first | done | with_reducible rfl)); (simp only [Act.at, setIfInBounds_toArray, set_cons_zero, set_cons_succ]))
    | (refine tkU (i := 10) rfl rfl ?_; (simp only [Act.at, setIfInBounds_toArray, set_cons_zero, set_cons_succ]))
    refine takeOne (i := 11) (by kernel_rfl) rfl (by rfl) (fun K hK => ?_)
    go_simp
    refine hK.out _ _ hS4 (fun hHeld => ?_)
    clear hK K
    try simp only [Act.put, setIfInBounds_toArray, set_cons_zero, set_cons_succ]
    refine wpAnyH_done (by kernel_rfl) ?_ _
    clear hc6 hf6 hS3 hS4 hHeld
    have z6 : (w3.setCell ⟨be, k * 7 + 6, none⟩ (.slice (some ⟨g, 0, none⟩) (M[k].e.H.length + 1) cap)).cell? ⟨be, k * 7 + 6, none⟩ = some (.slice (some ⟨g, 0, none⟩) (M[k].e.H.length + 1) cap) := HeldAt.x6 hk HFIN.out
    have HSO := Lib.hid (sortT_any (L := M[k].e.H ++ [name]) (v := .slice (some ⟨g, 0, none⟩) (M[k].e.H.length + 1) cap) (by rw [List.length_append]; exact HFIN.out.2.2) (by rw [List.length_append]; have := HHL.out; simp; omega))
    generalize w3.setCell ⟨be, k * 7 + 6, none⟩ (.slice (some ⟨g, 0, none⟩) (M[k].e.H.length + 1) cap) = w4 at HFIN z6 HSO ⊢
    go_wp2_with fail
    refine HSO.out.mono ?_
    rintro r w5 ⟨rfl, ho5, hg5⟩
    have HF2 := Lib.hid (HeldAt.sorted hk HFIN.out ho5 hg5)
    clear ho5 hg5 HFIN z6 HSO
    go_wp2_with fail
    go_returns
    exact ⟨rfl, _, _, HF2.out⟩
  · go_simp
    have hba := stBox wd (.cells #[.string (S name)] 9)
    have hS2 : ChT b0 name (wd.alloc (.cells #[.string (S name)] 9)) := (hba.cell (p := ⟨b0, 10, none⟩) HLT.out.2).trans hS
    have HMD := Lib.hid (cell_one_new wd (.string (S name)) 9)
    have HR2 := Lib.hid (And.intro (HR.out.1.mid hba) (And.intro (HR.out.2.1.below hba HR.out.2.1.lt) (HR.out.2.2.1.alloc (.cells #[.string (S name)] 9))))
    have HX2 : Hid ((wd.alloc (.cells #[.string (S name)] 9)).cell? ⟨be, k * 7 + 6, none⟩ = some (.slice M[k].B M[k].e.H.length M[k].cb)) := Lib.hid ((hba.cell (p := ⟨be, k * 7 + 6, none⟩) HLT.out.1).trans HR.out.2.2.2)
    have HB2 := Lib.hid (HB.out.trans (hba.mono HB.out.size))
    have HLT2 : Hid (b0 < (wd.alloc (.cells #[.string (S name)] 9)).heap.size) := Lib.hid (Nat.lt_of_lt_of_le HLT.out.2 hba.size)
    refine hK.out _ _ hS2 (fun hHeld => ?_)
    clear hK K
    try simp only [Act.put, setIfInBounds_toArray, set_cons_zero, set_cons_succ]
    clear hS HR HB hba
    obtain ⟨ab, hab⟩ : ∃ ab, wd.heap.size = ab := ⟨_, rfl⟩
    rw [hab] at HMD ⊢
    clear hab
    generalize wd.alloc (.cells #[.string (S name)] 9) = W2 at hS2 hHeld HMD HR2 HB2 HLT2 HX2 ⊢
    refine takeOne (i := 4) (by kernel_rfl) rfl (by rfl) (fun K hK => ?_)
    have hsl := HX2.out
    go_simp
    refine hK.out _ _ hS2 (fun hHeld => ?_)
    clear hK K hsl
    try simp only [Act.put, setIfInBounds_toArray, set_cons_zero, set_cons_succ]
    refine takeOne (i := 8) (by kernel_rfl) rfl (by rfl) (fun K hK => ?_)
    refine wp_txt_append (.tmp 44) (.tmp 47) rfl 48 rfl (.slice M[k].B M[k].e.H.length M[k].cb) M[k].e.H.length M[k].e.H rfl HR2.out.2.2 ⟨ab, 0, none⟩ name rfl HMD.out (by have := HHL.out; omega) ?_
    intro g cap w3 hown3 hg3 hgb3 hlt3
    obtain ⟨hst, hq4, ho4, hc6, hf6⟩ := HR2.out.1.holdRun HR2.out.2.1 hk hown3 hg3 hgb3
    have hgb0 : (Value.slice M[k].B M[k].e.H.length M[k].cb).ownBlock ≠ some b0 := fun e => by
      have h1 := HBN.out.1 b0 e
      have h2 := HQ0.out
      omega
    have hS3 : ChT b0 name w3 := World.cell_block (hg3.block b0 HLT2.out (fun e => hgb0 e.symm)) hS2
    have hS4 : ChT b0 name (w3.setCell ⟨be, k * 7 + 6, none⟩ (.slice (some ⟨g, 0, none⟩) (M[k].e.H.length + 1) cap)) := World.cell_block (Below.heap_setCell w3 ⟨be, k * 7 + 6, none⟩ _ b0 (fun e => by
      have h1 : b0 = be := e
      have h2 := HBN.out.2
      have h3 := HQ0.out
      omega)) hS3
    have HFIN := Lib.hid (And.intro (StStep.from HB2.out hst) (And.intro hq4 ho4))
    clear hown3 hg3 hgb3 hlt3 hst hq4 ho4 HR2 HMD HB2 hgb0 HX2 HLT2
    refine hK.out _ _ hS3 (fun hHeld => ?_)
    clear hK K
    try simp only [Act.put, setIfInBounds_toArray, set_cons_zero, set_cons_succ]
    simp only [Act.at, setIfInBounds_toArray, set_cons_zero, set_cons_succ]
    first
    | (refine tkW (i := 9) (v := ?_) rfl rfl ?_ ?_; rotate_left; (focus (intro w hSw; (try dsimp only at hSw); go_simp; first | done | with_reducible rfl)); (simp only [Act.at, setIfInBounds_toArray, set_cons_zero, set_cons_succ]))
    | (refine tkU (i := 9) rfl rfl ?_; (simp only [Act.at, setIfInBounds_toArray, set_cons_zero, set_cons_succ]))
    first
    | (refine tkW (i := 10) (v := ?_) rfl rfl ?_ ?_; rotate_left; (focus (intro w hSw; (try dsimp only at hSw); go_simp; first | done | with_reducible rfl)); (simp only [Act.at, setIfInBounds_toArray, set_cons_zero, set_cons_succ]))
    | (refine tkU (i := 10) rfl rfl ?_; (simp only [Act.at, setIfInBounds_toArray, set_cons_zero, set_cons_succ]))
    refine takeOne (i := 11) (by kernel_rfl) rfl (by rfl) (fun K hK => ?_)
    go_simp
    refine hK.out _ _ hS4 (fun hHeld => ?_)
    clear hK K
    try simp only [Act.put, setIfInBounds_toArray, set_cons_zero, set_cons_succ]
    refine wpAnyH_done (by kernel_rfl) ?_ _
    clear hc6 hf6 hS3 hS4 hHeld
    have z6 : (w3.setCell ⟨be, k * 7 + 6, none⟩ (.slice (some ⟨g, 0, none⟩) (M[k].e.H.length + 1) cap)).cell? ⟨be, k * 7 + 6, none⟩ = some (.slice (some ⟨g, 0, none⟩) (M[k].e.H.length + 1) cap) := HeldAt.x6 hk HFIN.out
    have HSO := Lib.hid (sortT_any (L := M[k].e.H ++ [name]) (v := .slice (some ⟨g, 0, none⟩) (M[k].e.H.length + 1) cap) (by rw [List.length_append]; exact HFIN.out.2.2) (by rw [List.length_append]; have := HHL.out; simp; omega))
    generalize w3.setCell ⟨be, k * 7 + 6, none⟩ (.slice (some ⟨g, 0, none⟩) (M[k].e.H.length + 1) cap) = w4 at HFIN z6 HSO ⊢
    go_wp2_with fail
    refine HSO.out.mono ?_
    rintro r w5 ⟨rfl, ho5, hg5⟩
    have HF2 := Lib.hid (HeldAt.sorted hk HFIN.out ho5 hg5)
    clear ho5 hg5 HFIN z6 HSO
    go_wp2_with fail
    go_returns
    exact ⟨rfl, _, _, HF2.out⟩
set_option maxRecDepth 100000 in
set_option maxHeartbeats 8000000 in
theorem change5_any (h : StRep w q s M Q now n) {ca0 mb be : Nat} {B0 : Option Addr} {cb0 : Nat} (h1 : Has w q 58 #[.slice (some ⟨be, 0, none⟩) M.length ca0, .map (some mb), .slice B0 Q.length cb0, .int .i64 now, .int .i64 (n : Int)]) {k : Nat} (hk : k < M.length) {v : Evt} (hv : v.kind = 5) (hn : v.name ∈ M[k].e.H) (A : Option Addr) (ca : Nat) (B : Option Addr) (cb : Nat) :
    Calls Try.prog 41 #[.pointer (some ⟨be, k * 7, none⟩), v.val A ca B cb] w fun r w' => r = .returned (.tuple #[]) ∧ ∃ (B2 : Option Addr) (cb2 : Nat), StStep w q s (M.set k (heldX M[k] (M[k].e.H.filter fun x => decide (x ≠ v.name)) B2 cb2)) Q now n w' := by
  unfold Evt.val
  obtain ⟨kind, ⟨id, cls, born, slot, L, gone, H⟩, seq, idx, name, size, root, now2⟩ := v
  dsimp only at *
  subst hv
  have hba := stBox w (.cells #[.int .i64 5, .string (S id), .int .i64 cls, .int .i64 born, .int .i64 slot, .slice A L.length ca, .bool gone, .slice B H.length cb, .int .i64 seq, .int .i64 idx, .string (S name), .int .i64 size, .string (S root), .int .i64 now2] 37)
  have hbx := Has.made w 37 #[.int .i64 5, .string (S id), .int .i64 cls, .int .i64 born, .int .i64 slot, .slice A L.length ca, .bool gone, .slice B H.length cb, .int .i64 seq, .int .i64 idx, .string (S name), .int .i64 size, .string (S root), .int .i64 now2]
  have h1' := h1.below hba h1.lt
  have hr := h.mid hba
  have x6 := (hr.xat h1' hk).2.2.2.2.2.2
  have f6 := hr.freeX h1' (by omega) (k * 7 + 6)
  obtain ⟨ap1, ap2, ap3, ap4⟩ := h.apart h1 hk
  have hox := (hr.own M[k] (List.getElem_mem hk)).h
  have hne0 : M[k].e.H.length ≠ 0 := fun e => by rw [List.eq_nil_of_length_eq_zero e] at hn; cases hn
  obtain ⟨g, cur, hB, hHg, -⟩ := ownS_has hox hne0
  have hgb : g ∈ M[k].bl := by unfold EntX.bl; rw [hB]; exact List.mem_append.2 (Or.inr (by simp [Value.ownBlock]))
  have hgl : g < w.heap.size := (h.own M[k] (List.getElem_mem hk)).lt g hgb
  have hob : (Value.slice M[k].B M[k].e.H.length M[k].cb).ownBlock = some g := by rw [hB]; rfl
  rw [hB] at x6
  have hrow := hox
  rw [hB] at hrow
  have HD := Lib.hid (deleteT_any hrow (hbx.cell 10) (by omega) hbx.lt)
  have HAP : Hid (g ≠ be) := Lib.hid (fun e => ap1 (e ▸ hgb))
  have HBE : Hid (be < (w.alloc (.cells #[.int .i64 5, .string (S id), .int .i64 cls, .int .i64 born, .int .i64 slot, .slice A L.length ca, .bool gone, .slice B H.length cb, .int .i64 seq, .int .i64 idx, .string (S name), .int .i64 size, .string (S root), .int .i64 now2] 37)).heap.size) := Lib.hid (Nat.lt_of_lt_of_le ap4 hba.size)
  have HFIN : Hid (∀ w2, (w.alloc (.cells #[.int .i64 5, .string (S id), .int .i64 cls, .int .i64 born, .int .i64 slot, .slice A L.length ca, .bool gone, .slice B H.length cb, .int .i64 seq, .int .i64 idx, .string (S name), .int .i64 size, .string (S root), .int .i64 now2] 37)).grownBy w2 (some g) → ∀ cap2, w2.ownsRow 0 9 1 (.slice (some ⟨g, 0, none⟩) (M[k].e.H.filter fun x => decide (x ≠ name)).length cap2) (M[k].e.H.filter fun x => decide (x ≠ name)).length (tvs (M[k].e.H.filter fun x => decide (x ≠ name))) →
      StStep w q s (M.set k (heldX M[k] (M[k].e.H.filter fun x => decide (x ≠ name)) (some ⟨g, 0, none⟩) cap2)) Q now n (w2.setCell ⟨be, k * 7 + 6, none⟩ (.slice (some ⟨g, 0, none⟩) (M[k].e.H.filter fun x => decide (x ≠ name)).length cap2))) := Lib.hid (fun w2 hg2 cap2 ho2 =>
    StStep.from hba (hr.turnH h1' hk (H2 := M[k].e.H.filter fun x => decide (x ≠ name)) (by rw [hob]; exact hg2) ho2 (fun z hz => Or.inl (by rw [hob]; exact hz))))
  have y0 := hbx.cell 0
  clear h h1 h1' hr hox hrow hHg hba hbx ap1 ap2 ap3 ap4 hob hn hne0 hgb hgl hB
  generalize (M[k].e.H.filter fun x => decide (x ≠ name)) = FH at *
  go_enter Try.func41, Try.ntmps41
  go_upto_region 1 with fail
  generalize w.alloc (.cells #[.int .i64 5, .string (S id), .int .i64 cls, .int .i64 born, .int .i64 slot, .slice A L.length ca, .bool gone, .slice B H.length cb, .int .i64 seq, .int .i64 idx, .string (S name), .int .i64 size, .string (S root), .int .i64 now2] 37) = W0 at *
  obtain ⟨b0, hq0⟩ : ∃ b0, w.heap.size = b0 := ⟨_, rfl⟩
  rw [hq0] at y0 HD ⊢
  clear hq0
  go_wp2_with fail
  refine HD.out.mono ?_
  rintro r w2 ⟨rfl, ho2, hg2⟩
  have z6 := World.cell_block (hg2.block be HBE.out (fun e => HAP.out (by injection e with e; exact e.symm))) x6
  have zf : w2.frozen? ⟨be, k * 7 + 6, none⟩ = false := by
    have : w2.frozen? ⟨be, k * 7 + 6, none⟩ = W0.frozen? ⟨be, k * 7 + 6, none⟩ := by simp only [World.frozen?, hg2.block be HBE.out (fun e => HAP.out (by injection e with e; exact e.symm))]
    rw [this]; exact f6
  have HF := Lib.hid (HFIN.out w2 hg2 _ ho2)
  clear ho2 hg2 x6 f6 HFIN HD y0
  go_wp2_with fail
  go_returns
  exact ⟨rfl, _, _, HF.out⟩
end
end Go.Proofs.Ytojemaaljjibiaa

namespace Go.Proofs.Ytojemaaljjibiaa
open Go.RowKit
open Go.Op (bytesLess)
set_option linter.unusedVariables false

theorem Sta.hW_sorted {H : List (List UInt8)} (h : H.Pairwise (fun a b => bytesLess a b = true)) {n : List UInt8} (hn : n ∉ H) : (H ++ [n]).mergeSort leB = Sta.hW H n true := by
  have hp : (Sta.hW H n true).Pairwise (fun a b => bytesLess a b = true) := Sta.hW_pairs n H true h
  have hlt : ∀ {a b : List UInt8}, bytesLess a b = true → a < b := fun {a b} hab => by
    rw [Go.Proofs.bytesLess_eq] at hab
    exact of_decide_eq_true hab
  have hp1 : (Sta.hW H n true).Pairwise (fun a b => leB a b = true) := hp.imp (fun {a b} hab => by
    simp only [leB, decide_eq_true_eq]
    exact List.le_of_lt (hlt hab))
  have hnd : (Sta.hW H n true).Nodup := hp.imp (fun {a b} hab e => by subst e; exact List.lt_irrefl a (hlt hab))
  have hnd2 : (H ++ [n]).Nodup := by
    refine List.nodup_append.2 ⟨h.imp (fun {a b} hab e => by subst e; exact List.lt_irrefl a (hlt hab)), by simp, fun a ha b hb e => ?_⟩
    rw [List.mem_singleton] at hb
    subst hb e
    exact hn ha
  have hperm : (H ++ [n]).Perm (Sta.hW H n true) := by
    rw [List.perm_ext_iff_of_nodup hnd2 hnd]
    intro a
    rw [Sta.hW_mem, List.mem_append, List.mem_singleton]
    constructor
    · rintro (ha | rfl)
      · by_cases e : a = n
        · exact Or.inl ⟨rfl, e⟩
        · exact Or.inr ⟨ha, e⟩
      · exact Or.inl ⟨rfl, rfl⟩
    · rintro (⟨_, rfl⟩ | ⟨ha, _⟩)
      · exact Or.inr rfl
      · exact Or.inl ha
  exact (mergeSort_of_perm hperm).trans (List.mergeSort_of_pairwise hp1)
theorem Sta.set_erS (L : List Slp) (i : Nat) (hi : i < L.length) : L.set i (Sta.gonE L[i]) = Sta.erS L (i : Int) := by
  apply List.ext_getElem?
  intro k
  rw [Sta.erS_get, List.getElem?_set]
  by_cases hk : i = k
  · subst hk
    rw [if_pos rfl, if_pos hi, List.getElem?_eq_getElem hi, Option.map_some, if_pos (Or.inr rfl)]
  · rw [if_neg hk]
    cases L[k]? with
    | none => rfl
    | some x => rw [Option.map_some, if_neg (by omega)]
theorem modify_set {P : List Ent} {k : Nat} (hk : k < P.length) (f : Ent → Ent) : P.modify k f = P.set k (f P[k]) := by
  apply List.ext_getElem?
  intro j
  rw [Sta.get_modify, List.getElem?_set]
  by_cases h : k = j
  · subst h
    rw [if_pos rfl, if_pos rfl, if_pos hk, List.getElem?_eq_getElem hk]; rfl
  · rw [if_neg h, if_neg h]
end Go.Proofs.Ytojemaaljjibiaa
