/-
  EvRdS: the texts TextsSpec, EvRead, EvSame in one.
-/
import Derived.Test.YtojemaaljjibiaaStaOne
import Derived.Test.YtojemaaljjibiaaEvWr
import Derived.Test.YtojemaaljjibiaaEvRefs
namespace Go.Proofs.Ytojemaaljjibiaa
open Go.RowKit
namespace R
def textsK : Nat → Int → St → List (List UInt8) → List (List UInt8) × St
  | 0, _, st, acc => (acc, st)
  | k + 1, m, st, acc => if (text m st).2.2 = 0 then textsK k m (text m st).2 (acc ++ [(text m st).1]) else ([], (text m st).2)
def texts (many m : Int) (st : St) : List (List UInt8) × St := textsK (num many st).1.toNat m (num many st).2 []

end R

/-- Behind a step that turned one row of the call's own. -/
theorem Only.own {w w2 w3 : World} {g : Nat} {row : Option Nat} (h : Only w w2 g) (hg : w2.grownBy w3 row) (hr : ∀ k, row = some k → w.heap.size ≤ k) : Only w w3 g :=
  ⟨hg.os.trans h.os, hg.tape.trans h.tape, hg.output.trans h.output, Nat.le_trans h.size hg.size, fun i hi hn => (hg.block i (Nat.lt_of_lt_of_le hi h.size) (fun e => by have := hr i e.symm; omega)).trans (h.block i hi hn)⟩
end Go.Proofs.Ytojemaaljjibiaa

namespace Go.Proofs.Ytojemaaljjibiaa
set_option linter.unusedVariables false

namespace R
theorem flag_fwd (b : Bool) (r : List UInt8) : flag (Ev.flg b ++ r, 0) = (b, (r, 0)) := by
  have h : next 1 (Ev.flg b ++ r, 0) = ((Ev.flg b ++ r).take 1, ((Ev.flg b ++ r).drop 1, 0)) := next_ok 1 (Ev.flg b ++ r) (by unfold Ev.flg; simp)
  unfold flag
  rw [h]
  unfold Ev.flg
  cases b <;> rfl
theorem textsK_fwd {m : Int} {r : List UInt8} : ∀ (H : List (List UInt8)) (acc : List (List UInt8)), (∀ x ∈ H, (x.length : Int) ≤ m ∧ x.length < 72057594037927936) → textsK H.length m (H.flatMap Ev.txt ++ r, 0) acc = (acc ++ H, (r, 0))
  | [], acc, _ => by simp [textsK]
  | x :: H, acc, h => by
    have hx := h x (List.mem_cons_self ..)
    have e : (x :: H).flatMap Ev.txt ++ r = M.encL x.length ++ x ++ (H.flatMap Ev.txt ++ r) := by rw [List.flatMap_cons, List.append_assoc]; rfl
    rw [List.length_cons, textsK, e, text_fwd m x (H.flatMap Ev.txt ++ r) (by omega) hx.1, if_pos rfl, textsK_fwd H _ (fun y hy => h y (List.mem_cons_of_mem _ hy))]
    simp
theorem texts_fwd {many m : Int} {r : List UInt8} (H : List (List UInt8)) (h1 : (H.length : Int) ≤ many) (h2 : H.length < 72057594037927936) (h : ∀ x ∈ H, (x.length : Int) ≤ m ∧ x.length < 72057594037927936) :
    texts many m (M.encL H.length ++ (H.flatMap Ev.txt ++ r), 0) = (H, (r, 0)) := by
  unfold texts
  rw [num_fwd many H.length _ (by omega) (by omega) h1]
  dsimp only
  rw [Int.toNat_natCast, textsK_fwd H [] h, List.nil_append]
end R
namespace Ev
open R (St)
/-- A slip is read. -/
def rS (st : St) : Slp × St :=
  let a := R.text 16 st
  let b := R.text 32 a.2
  let c := R.flag b.2
  if c.1 = true then (⟨a.1, b.1, [], true⟩, c.2) else (⟨a.1, b.1, (R.text 224 c.2).1, false⟩, (R.text 224 c.2).2)
def rSs : Nat → St → List Slp → List Slp × St
  | 0, st, acc => (acc, st)
  | k + 1, st, acc => rSs k (rS st).2 (acc ++ [(rS st).1])
/-- A paper as it is kept is read. -/
def rE (st : St) : Ent × St :=
  let i := R.text 24 st
  let c := R.num 7 i.2
  let b := R.num 1099511627776 c.2
  let s := R.num 63 b.2
  let g := R.flag s.2
  let h := R.texts 4 16 g.2
  let n := R.num 12 h.2
  let l := rSs n.1.toNat n.2 []
  (⟨i.1, c.1, b.1, s.1, l.1, g.1, h.1⟩, l.2)
/-- An event is read. -/
def rV (st : St) : Evt × St :=
  let k := R.num 7 st
  if k.1 = 1 then ({ Evt.zero with kind := 1, ent := (rE k.2).1 }, (rE k.2).2)
  else if k.1 = 2 then ({ Evt.zero with kind := 2, seq := (R.num 63 k.2).1, idx := (R.num 11 (R.num 63 k.2).2).1 }, (R.num 11 (R.num 63 k.2).2).2)
  else if k.1 = 3 then ({ Evt.zero with kind := 3, seq := (R.num 63 k.2).1 }, (R.num 63 k.2).2)
  else if k.1 = 4 ∨ k.1 = 5 then ({ Evt.zero with kind := k.1, seq := (R.num 63 k.2).1, name := (R.text 16 (R.num 63 k.2).2).1 }, (R.text 16 (R.num 63 k.2).2).2)
  else if k.1 = 6 then ({ Evt.zero with kind := 6, size := (R.num 64 k.2).1, root := (R.text 32 (R.num 64 k.2).2).1 }, (R.text 32 (R.num 64 k.2).2).2)
  else if k.1 = 7 then ({ Evt.zero with kind := 7, now := (R.num 1099511627776 k.2).1 }, (R.num 1099511627776 k.2).2)
  else ({ Evt.zero with kind := k.1 }, k.2)
/-- What reading any bytes comes to: an event, and a code. -/
def readV (s : T) : Evt × Int :=
  if (R.fin (rV (s, 0)).2).2 ≠ 0 then (Evt.zero, (R.fin (rV (s, 0)).2).2) else if right (rV (s, 0)).1 = true then ((rV (s, 0)).1, 0) else (Evt.zero, 4)
/-! errors stay -/
/-! what was read -/
end Ev
namespace R
end R
namespace Ev
open R (St)
/-! what may be is read again -/
theorem rS_fwd {g : Bool} {s : Slp} (r : T) (h : slipR g s = true) : rS (encS s ++ r, 0) = (s, (r, 0)) := by
  obtain ⟨h1, h2, h3, h4⟩ := slipR_iff.1 h
  have hn := (Pap.word_len h1).2
  obtain ⟨n, p, c, e⟩ := s
  dsimp only at *
  unfold encS
  dsimp only
  cases e with
  | true =>
    have hc := h3 rfl
    subst hc
    have e0 : txt n ++ txt p ++ flg true ++ (if true = true then [] else txt []) ++ r = M.encL n.length ++ n ++ (M.encL p.length ++ p ++ (flg true ++ r)) := by
      rw [if_pos rfl]; unfold txt; simp only [List.append_assoc, List.append_nil]
    rw [e0]
    unfold rS
    rw [R.text_fwd 16 n _ (by omega) (by omega)]
    dsimp only
    rw [R.text_fwd 32 p _ (by omega) (by omega)]
    dsimp only
    rw [R.flag_fwd]
    rfl
  | false =>
    obtain ⟨h5, h6, _⟩ := h4 rfl
    have e0 : txt n ++ txt p ++ flg false ++ (if false = true then [] else txt c) ++ r = M.encL n.length ++ n ++ (M.encL p.length ++ p ++ (flg false ++ (M.encL c.length ++ c ++ r))) := by
      rw [if_neg (by decide)]; unfold txt; simp only [List.append_assoc]
    rw [e0]
    unfold rS
    rw [R.text_fwd 16 n _ (by omega) (by omega)]
    dsimp only
    rw [R.text_fwd 32 p _ (by omega) (by omega)]
    dsimp only
    rw [R.flag_fwd]
    dsimp only
    rw [if_neg (by decide), R.text_fwd 224 c _ (by omega) (by omega)]
theorem rSs_fwd {g : Bool} (r : T) : ∀ (L : List Slp) (acc : List Slp), (∀ x ∈ L, slipR g x = true) → rSs L.length (L.flatMap encS ++ r, 0) acc = (acc ++ L, (r, 0))
  | [], acc, _ => by simp [rSs]
  | x :: L, acc, h => by
    rw [List.length_cons, rSs, List.flatMap_cons, List.append_assoc, rS_fwd _ (h x (List.mem_cons_self ..))]
    dsimp only
    rw [rSs_fwd r L _ (fun y hy => h y (List.mem_cons_of_mem _ hy))]
    simp
theorem rE_fwd {e : Ent} (r : T) (h : entR e = true) : rE (encE e ++ r, 0) = (e, (r, 0)) := by
  obtain ⟨h1, h2, h3, h4, h5, h6, h7, h8, h9, h10⟩ := entR_iff.1 h
  have hn := (Pap.word_len h1).2
  obtain ⟨id, cls, born, slot, L, gone, H⟩ := e
  dsimp only at *
  have e0 : encE ⟨id, cls, born, slot, L, gone, H⟩ ++ r = M.encL id.length ++ id ++ (M.encL cls ++ (M.encL born ++ (M.encL slot ++ (flg gone ++ (M.encL H.length ++ (H.flatMap txt ++ (M.encL L.length ++ (L.flatMap encS ++ r)))))))) := by
    unfold encE txt; simp only [List.append_assoc]
  rw [e0]
  unfold rE
  rw [R.text_fwd 24 id _ (by omega) (by omega)]
  dsimp only
  rw [R.num_fwd 7 cls _ h2.1 (by omega) h2.2]
  dsimp only
  rw [R.num_fwd 1099511627776 born _ h3.1 (by omega) h3.2]
  dsimp only
  rw [R.num_fwd 63 slot _ h4.1 (by omega) h4.2]
  dsimp only
  rw [R.flag_fwd]
  dsimp only
  rw [R.texts_fwd H (by omega) (by omega) (fun x hx => by have := (Pap.word_len (h7 x hx)).2; exact ⟨by omega, by omega⟩)]
  dsimp only
  rw [R.num_fwd 12 (L.length : Int) _ (by omega) (by omega) (by omega)]
  dsimp only
  rw [Int.toNat_natCast, rSs_fwd r L [] h9, List.nil_append]
theorem rV_fwd {v : Evt} (h : right v = true) : rV (enc v, 0) = (clean v, ([], 0)) := by
  have hk := right_kind h
  have e0 : ∀ B : T, R.num 7 (M.encL v.kind ++ B, 0) = (v.kind, (B, 0)) := fun B => R.num_fwd 7 v.kind B (by omega) (by omega) (by omega)
  rcases kinds v with q | q | q | q | q | q | q
  · rw [right1 q] at h
    rw [enc1 q, clean1 q]
    unfold rV
    rw [e0]
    dsimp only
    rw [if_pos q]
    have := rE_fwd [] h
    rw [List.append_nil] at this
    rw [this]
  · rw [right2 q, Bool.and_eq_true, rng_iff, rng_iff] at h
    rw [enc2 q, clean2 q]
    unfold rV
    rw [e0]
    dsimp only
    rw [if_neg (by omega), if_pos q, R.num_fwd 63 v.seq _ h.1.1 (by omega) h.1.2]
    dsimp only
    have := R.num_fwd 11 v.idx [] h.2.1 (by omega) h.2.2
    rw [List.append_nil] at this
    rw [this]
  · rw [right3 q, rng_iff] at h
    rw [enc3 q, clean3 q]
    unfold rV
    rw [e0]
    dsimp only
    rw [if_neg (by omega), if_neg (by omega), if_pos q]
    have := R.num_fwd 63 v.seq [] h.1 (by omega) h.2
    rw [List.append_nil] at this
    rw [this]
  · rw [right4 q, Bool.and_eq_true, rng_iff] at h
    have hw := (Pap.word_len h.2).2
    rw [enc4 q, clean4 q]
    unfold rV
    rw [e0]
    dsimp only
    rw [if_neg (by omega), if_neg (by omega), if_neg (by omega), if_pos q, R.num_fwd 63 v.seq _ h.1.1 (by omega) h.1.2]
    dsimp only
    have := R.text_fwd 16 v.name [] (by omega) (by omega)
    rw [List.append_nil] at this
    unfold txt
    rw [this]
  · rw [right6 q, Bool.and_eq_true, rng_iff, decide_eq_true_iff] at h
    rw [enc6 q, clean6 q]
    unfold rV
    rw [e0]
    dsimp only
    rw [if_neg (by omega), if_neg (by omega), if_neg (by omega), if_neg (by omega), if_pos q, R.num_fwd 64 v.size _ h.1.1 (by omega) h.1.2]
    dsimp only
    have := R.text_fwd 32 v.root [] (by omega) (by omega)
    rw [List.append_nil] at this
    unfold txt
    rw [this]
  · rw [right7 q, rng_iff] at h
    rw [enc7 q, clean7 q]
    unfold rV
    rw [e0]
    dsimp only
    rw [if_neg (by omega), if_neg (by omega), if_neg (by omega), if_neg (by omega), if_neg (by omega), if_pos q]
    have := R.num_fwd 1099511627776 v.now [] h.1 (by omega) h.2
    rw [List.append_nil] at this
    rw [this]
  · rw [right0 q] at h; cases h
theorem readV_fwd {v : Evt} (h : right v = true) : readV (enc v) = (clean v, 0) := by
  unfold readV
  rw [rV_fwd h]
  dsimp only
  have e : (R.fin (([] : T), (0 : Int))).2 = 0 := rfl
  rw [if_neg (by rw [e]; decide), if_pos (by rw [right_clean]; exact h)]
theorem enc_ne (v : Evt) (h : right v = true) : enc v ≠ [] := by
  have hk := right_kind h
  have e0 : M.encL v.kind ≠ [] := by
    obtain ⟨k, hk'⟩ := Int.eq_ofNat_of_zero_le (show 0 ≤ v.kind by omega)
    rw [hk', M.encL, if_pos ⟨by omega, by omega⟩]
    exact List.cons_ne_nil _ _
  unfold enc
  intro e
  exact e0 (List.append_eq_nil_iff.1 e).1
/-- Two events have one form just where they are one, clean. -/
theorem same_iff (a b : Evt) : (decide (bytes a ≠ []) && decide (bytes a = bytes b)) = (right a && right b && decide (clean a = clean b)) := by
  cases ha : right a with
  | false =>
    have e : bytes a = [] := by unfold bytes; rw [ha]; rfl
    rw [e]; rfl
  | true =>
    have e : bytes a = enc a := by unfold bytes; rw [if_pos ha]
    rw [e, decide_eq_true (enc_ne a ha), Bool.true_and, Bool.true_and]
    cases hb : right b with
    | false =>
      have e2 : bytes b = [] := by unfold bytes; rw [hb]; rfl
      rw [e2, decide_eq_false (enc_ne a ha)]; rfl
    | true =>
      have e2 : bytes b = enc b := by unfold bytes; rw [if_pos hb]
      rw [e2, Bool.true_and]
      refine decide_eq_decide.2 ⟨fun h => ?_, fun h => ?_⟩
      · have h1 := readV_fwd ha
        rw [h, readV_fwd hb] at h1
        injection h1 with h1 _
        exact h1.symm
      · rw [← enc_clean ha, ← enc_clean hb, h]
end Ev
end Go.Proofs.Ytojemaaljjibiaa

namespace Go.Proofs.Ytojemaaljjibiaa
open Go.RowKit
set_option linter.unusedVariables false

set_option maxRecDepth 100000 in
set_option maxHeartbeats 4000000 in
theorem sameV_any {w : World} {u v : Evt} {A B C D : Option Addr} {ca cb cc cd : Nat} (h1 : EntIn w [] u.ent A ca B cb) (h2 : EntIn w [] v.ent C cc D cd) (f1 : EvtFew u) (f2 : EvtFew v) :
    Calls Try.prog 47 #[u.val A ca B cb, v.val C cc D cd] w fun r w' => r = .returned (.bool (decide (Ev.bytes u ≠ []) && decide (Ev.bytes u = Ev.bytes v))) ∧ Below w.heap.size w w' := by
  have hB1 := fun (W : World) (hb : Below w.heap.size w W) => bytesV_any (v := u) (EntIn.at h1 hb (s := []) (fun x hx => by cases hx)) f1
  have hB2 := fun (W : World) (hb : Below w.heap.size w W) => bytesV_any (v := v) (EntIn.at h2 hb (s := []) (fun x hx => by cases hx)) f2
  obtain ⟨C1, e1, s1, -⟩ := evtOpen u A ca B cb
  obtain ⟨C2, e2, s2, -⟩ := evtOpen v C cc D cd
  rw [e1] at hB1 ⊢
  rw [e2] at hB2 ⊢
  have HB1 := Lib.hid hB1
  have HB2 := Lib.hid hB2
  have HS := Lib.hid (And.intro s1 s2)
  clear hB1 hB2 h1 h2 f1 f2 e1 e2 s1 s2
  generalize Ev.bytes u = l at *
  generalize Ev.bytes v = m at *
  have hp := entTwo w 37 C1 C2
  have hup : Below w.heap.size w ((w.alloc (.cells C1 37)).alloc (.cells C2 37)) := entPair
  have hsz : ((w.alloc (.cells C1 37)).alloc (.cells C2 37)).heap.size = w.heap.size + 1 + 1 := by rw [asize, asize]
  go_enter Try.func47, Try.ntmps47
  go_upto_region 1 with fail
  generalize (w.alloc (.cells C1 37)).alloc (.cells C2 37) = W0 at hp hup hsz ⊢
  obtain ⟨b0, hq0⟩ : ∃ b0, w.heap.size = b0 := ⟨_, rfl⟩
  rw [hq0] at hp hsz ⊢
  have HP := Lib.hid hp
  have HU := Lib.hid hup
  clear hp hup hq0
  refine wp_region_lit ?_
  refine wpList_evLoad (by rfl) (.tmp 2) rfl b0 C1 ?e1 HP.out.1 HS.out.1 ?_
  case e1 => rfl
  go_wp2_with fail
  refine (HB1.out _ HU.out).mono ?_
  rintro r w1 ⟨rfl, hb1⟩
  have HP1 := Lib.hid (HP.out.2.below hb1 (by omega))
  have HU1 := Lib.hid (HU.out.trans (hb1.mono HU.out.size))
  clear hb1 HP HU HB1 hsz
  by_cases hl : l = []
  · subst hl
    go_wp2_with fail
    go_ret
    exact ⟨rfl, HU1.out⟩
  · have hlb : (l == []) = false := by rw [beq_eq_false_iff_ne]; exact hl
    have HD := Lib.hid (decide_eq_true hl)
    have HQ : Hid (decide (l = m) = (l == m)) := Lib.hid (by rw [Bool.eq_iff_iff, beq_iff_eq, decide_eq_true_iff])
    clear hl
    go_wp2_with (refine wpList_evLoad (by rfl) (.tmp 3) rfl (b0 + 1) C2 ?e1 HP1.out HS.out.2 ?_; (case e1 => rfl))
    refine (HB2.out _ HU1.out).mono ?_
    rintro r w2 ⟨rfl, hb2⟩
    go_wp2_with fail
    go_ret
    exact ⟨by rw [HD.out, Bool.true_and, HQ.out]; rfl, HU1.out.trans (hb2.mono HU1.out.size)⟩
end Go.Proofs.Ytojemaaljjibiaa
