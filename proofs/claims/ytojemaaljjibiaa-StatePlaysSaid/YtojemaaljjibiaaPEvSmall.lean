/-
  EvSmall: the texts EvFew, EvRefE, EvRefF, EvA, EvB in one.
-/
import Derived.Test.YtojemaaljjibiaaPEvRefs
import Derived.Test.YtojemaaljjibiaaPStaThree
import Derived.Test.YtojemaaljjibiaaPStaTwo
import Derived.Deep.LoopGhost
import Derived.Laws.Cover1
import Derived.Deep.AppendLies
namespace Go.Proofs.Ytojemaaljjibiaa
open Go.RowKit
set_option linter.unusedVariables false

namespace Ev
def cutS (x : Slp) : Slp := ⟨x.n.take 300, x.p.take 300, x.c.take 300, x.e⟩
def slipsK (L : List Slp) (k : Nat) : List Slp := (L.take k).map cutS
def holdsK (H : List T) (k : Nat) : List T := (H.take k).map fun s => s.take 300
/-- A paper whose lists have at most 20 items, and whose texts at most 300 bytes. -/
def fewE (e : Ent) : Ent := ⟨e.id.take 300, e.cls, e.born, e.slot, slipsK e.L 20, e.gone, holdsK e.H 20⟩
def few (v : Evt) : Evt := { v with ent := fewE v.ent, name := v.name.take 300, root := v.root.take 300 }
theorem slipsK_len (L : List Slp) (k : Nat) (hk : k ≤ L.length) : (slipsK L k).length = k := by unfold slipsK; rw [List.length_map, List.length_take]; omega
theorem slipsK_step (L : List Slp) (k : Nat) (hk : k < L.length) : slipsK L (k + 1) = slipsK L k ++ [cutS (L[k]'hk)] := by
  unfold slipsK
  rw [List.take_succ_eq_append_getElem hk, List.map_append]; rfl
theorem slipsK_end (L : List Slp) (k : Nat) (h : k = 20 ∨ (k = L.length ∧ k ≤ 20)) : slipsK L k = slipsK L 20 := by
  unfold slipsK
  rcases h with rfl | ⟨h1, h2⟩
  · rfl
  · rw [List.take_of_length_le (by omega), List.take_of_length_le (by omega)]
theorem holdsK_len (H : List T) (k : Nat) (hk : k ≤ H.length) : (holdsK H k).length = k := by unfold holdsK; rw [List.length_map, List.length_take]; omega
theorem holdsK_step (H : List T) (k : Nat) (hk : k < H.length) : holdsK H (k + 1) = holdsK H k ++ [(H[k]'hk).take 300] := by
  unfold holdsK
  rw [List.take_succ_eq_append_getElem hk, List.map_append]; rfl
theorem holdsK_end (H : List T) (k : Nat) (h : k = 20 ∨ (k = H.length ∧ k ≤ 20)) : holdsK H k = holdsK H 20 := by
  unfold holdsK
  rcases h with rfl | ⟨h1, h2⟩
  · rfl
  · rw [List.take_of_length_le (by omega), List.take_of_length_le (by omega)]
theorem slipsK_le (L : List Slp) : (slipsK L 20).length ≤ 20 := by unfold slipsK; rw [List.length_map, List.length_take]; omega
theorem slipsK_short (L : List Slp) (k : Nat) : ∀ x ∈ slipsK L k, x.n.length ≤ 300 ∧ x.p.length ≤ 300 ∧ x.c.length ≤ 300 := fun x hx => by
  unfold slipsK at hx
  obtain ⟨y, _, rfl⟩ := List.mem_map.1 hx
  exact ⟨by show (y.n.take 300).length ≤ 300; rw [List.length_take]; omega, by show (y.p.take 300).length ≤ 300; rw [List.length_take]; omega, by show (y.c.take 300).length ≤ 300; rw [List.length_take]; omega⟩
theorem holdsK_short (H : List T) (k : Nat) : ∀ x ∈ holdsK H k, x.length ≤ 300 := fun x hx => by
  unfold holdsK at hx
  obtain ⟨y, _, rfl⟩ := List.mem_map.1 hx
  rw [List.length_take]; omega
end Ev
theorem few_entFew (e : Ent) : EntFew (Ev.fewE e) :=
  ⟨by show (e.id.take 300).length ≤ _; rw [List.length_take]; omega, fun x hx => by have := Ev.holdsK_short e.H 20 x hx; omega, fun x hx => by have := (Ev.slipsK_short e.L 20 x hx).1; omega, fun x hx => by have := (Ev.slipsK_short e.L 20 x hx).2.1; omega, fun x hx => by have := (Ev.slipsK_short e.L 20 x hx).2.2; omega⟩
theorem few_evtFew (v : Evt) : EvtFew (Ev.few v) :=
  ⟨few_entFew v.ent, by show (v.name.take 300).length ≤ _; rw [List.length_take]; omega, by show (v.root.take 300).length ≤ _; rw [List.length_take]; omega⟩
set_option maxHeartbeats 400000 in
theorem ecut_any (l : List UInt8) (w : World) : Calls Try.prog 30 #[.string (S l)] w fun e w' => e = .returned (.string (S (l.take 300))) ∧ w' = w := by
  by_cases h : (300 : Int) < (l.length : Int)
  · go_enter Try.func30, Try.ntmps30
    go_wp2_with fail
    go_ret
    exact ⟨rfl, rfl⟩
  · have ht : l.take 300 = l := List.take_of_length_le (by omega)
    have HT := Lib.hid ht
    clear ht
    go_enter Try.func30, Try.ntmps30
    go_wp2_with fail
    go_ret
    exact ⟨by rw [HT.out]; rfl, rfl⟩
end Go.Proofs.Ytojemaaljjibiaa

namespace Go.Proofs.Ytojemaaljjibiaa
open Go.RowKit
set_option linter.unusedVariables false

end Go.Proofs.Ytojemaaljjibiaa

namespace Go.Proofs.Ytojemaaljjibiaa
open Go.RowKit
set_option linter.unusedVariables false

/-- What Bytes reads of a paper, and of a slip. -/
abbrev EntS (b1 : Nat) (id : List UInt8) (cls born slot : Int) (A : Option Addr) (n ca : Nat) (gone : Bool) (B : Option Addr) (m cb : Nat) (W : World) : Prop :=
  W.cell? ⟨b1, 0, none⟩ = some (.string (S id)) ∧ W.cell? ⟨b1, 1, none⟩ = some (.int .i64 cls) ∧ W.cell? ⟨b1, 2, none⟩ = some (.int .i64 born) ∧ W.cell? ⟨b1, 3, none⟩ = some (.int .i64 slot) ∧ W.cell? ⟨b1, 4, none⟩ = some (.slice A n ca) ∧ W.cell? ⟨b1, 5, none⟩ = some (.bool gone) ∧ W.cell? ⟨b1, 6, none⟩ = some (.slice B m cb)
abbrev SlpS (sb : Nat) (n p c : List UInt8) (e : Bool) (W : World) : Prop :=
  W.cell? ⟨sb, 0, none⟩ = some (.string (S n)) ∧ W.cell? ⟨sb, 1, none⟩ = some (.string (S p)) ∧ W.cell? ⟨sb, 2, none⟩ = some (.string (S c)) ∧ W.cell? ⟨sb, 3, none⟩ = some (.bool e)
theorem entHeld {w : World} {I : List UInt8} {C Bo Sl : Int} {A B : Option Addr} {n ca m cb : Nat} {G : Bool} :
    let cs : Array Value := #[.string (S I), .int .i64 C, .int .i64 Bo, .int .i64 Sl, .slice A n ca, .bool G, .slice B m cb]
    ∀ W1, Below (w.alloc (.cells cs 33)).heap.size (w.alloc (.cells cs 33)) W1 → EntS w.heap.size I C Bo Sl A n ca G B m cb W1 ∧ Below w.heap.size w W1 := by
  intro cs W1 hb
  have hh := Has.made w 33 cs
  have hlt : w.heap.size < (w.alloc (.cells cs 33)).heap.size := by rw [asize]; omega
  have h1 := hh.below hb hlt
  exact ⟨⟨h1.cell 0, h1.cell 1, h1.cell 2, h1.cell 3, h1.cell 4, h1.cell 5, h1.cell 6⟩, ((Below.refl _ w).alloc (Nat.le_refl _) _).trans (hb.mono (Nat.le_of_lt hlt))⟩
theorem slpHeld {w : World} {n p c : List UInt8} {e : Bool} :
    let cs : Array Value := #[.string (S n), .string (S p), .string (S c), .bool e]
    ∀ W1, Below (w.alloc (.cells cs 51)).heap.size (w.alloc (.cells cs 51)) W1 → SlpS w.heap.size n p c e W1 ∧ Below w.heap.size w W1 := by
  intro cs W1 hb
  have hh := Has.made w 51 cs
  have hlt : w.heap.size < (w.alloc (.cells cs 51)).heap.size := by rw [asize]; omega
  have h1 := hh.below hb hlt
  exact ⟨⟨h1.cell 0, h1.cell 1, h1.cell 2, h1.cell 3⟩, ((Below.refl _ w).alloc (Nat.le_refl _) _).trans (hb.mono (Nat.le_of_lt hlt))⟩
end Go.Proofs.Ytojemaaljjibiaa

namespace Go.Proofs.Ytojemaaljjibiaa
open Go.RowKit
open Go.Op (bytesLess)
set_option linter.unusedVariables false

namespace Ev
theorem rng_way (n m : Int) : (¬ (0 : Int) ≤ n ∧ Ev.rng n m = false) ∨ ((0 : Int) ≤ n ∧ ¬ n ≤ m ∧ Ev.rng n m = false) ∨ ((0 : Int) ≤ n ∧ n ≤ m ∧ Ev.rng n m = true) := by
  unfold Ev.rng
  by_cases a1 : (0 : Int) ≤ n
  · by_cases a2 : n ≤ m
    · exact Or.inr (Or.inr ⟨a1, a2, decide_eq_true ⟨a1, a2⟩⟩)
    · exact Or.inr (Or.inl ⟨a1, a2, decide_eq_false (fun x => a2 x.2)⟩)
  · exact Or.inl ⟨a1, decide_eq_false (fun x => a1 x.1)⟩
theorem upTo_no {f : Nat → Bool} {n k : Nat} (hk : k < n) (h : f k = false) : upTo f n = false := by
  cases hu : upTo f n with
  | false => rfl
  | true =>
    have := (upTo_iff f n).1 hu k hk
    rw [h] at this
    cases this
theorem upTo_next {f : Nat → Bool} {k : Nat} (h : upTo f k = true) (hf : f k = true) : upTo f (k + 1) = true := by
  show (upTo f k && f k) = true
  rw [h, hf]; rfl
/-- May a slip be, but for its name? -/
def whole (s : Slp) : Bool := decide (s.p.length = 32) && (if s.e then decide (s.c.length = 0) else decide (16 ≤ s.c.length ∧ s.c.length ≤ 224))
end Ev
theorem isIn_any (n m : Int) (w : World) : Calls Try.prog 53 #[.int .i64 n, .int .i64 m] w fun r w' => r = .returned (.bool (Ev.rng n m)) ∧ w = w' := by
  rcases Ev.rng_way n m with ⟨a, h⟩ | ⟨a, b, h⟩ | ⟨a, b, h⟩
  all_goals
    rw [h]; clear h
    go_enter Try.func53, Try.ntmps53
    go_wp2_with fail
    go_ret
    exact ⟨rfl, rfl⟩
set_option maxRecDepth 100000 in
set_option maxHeartbeats 4000000 in
theorem isWhole_any (n p c : List UInt8) (e : Bool) (w : World) : Calls Try.prog 70 #[.agg #[.string (S n), .string (S p), .string (S c), .bool e]] w fun r w' => r = .returned (.bool (Ev.whole ⟨n, p, c, e⟩)) ∧ Below w.heap.size w w' := by
  have HB : Hid (Below w.heap.size w (w.alloc (.cells #[.string (S n), .string (S p), .string (S c), .bool e] 51))) := Lib.hid ((Below.refl _ w).alloc (Nat.le_refl _) _)
  have HW : Hid (Ev.whole ⟨n, p, c, e⟩ = (decide (p.length = 32) && (if e then decide (c.length = 0) else decide (16 ≤ c.length ∧ c.length ≤ 224)))) := Lib.hid rfl
  generalize Ev.whole ⟨n, p, c, e⟩ = r at HW ⊢
  by_cases h1 : p.length = 32
  · have h1i : ((p.length : Int) != 32) = false := by rw [bne_eq_false_iff_eq]; omega
    cases e with
    | true =>
      by_cases h2 : c = []
      · obtain rfl : r = true := by rw [HW.out, h1, h2]; rfl
        subst h2
        clear HW h1
        go_enter Try.func70, Try.ntmps70
        go_wp2_with fail
        go_ret
        exact ⟨rfl, HB.out⟩
      · have h2b : (c == []) = false := by rw [beq_eq_false_iff_ne]; exact h2
        obtain rfl : r = false := by rw [HW.out, if_pos rfl, decide_eq_false (fun e => h2 (List.length_eq_zero_iff.1 e)), Bool.and_false]
        clear HW h1 h2
        go_enter Try.func70, Try.ntmps70
        go_wp2_with fail
        go_ret
        exact ⟨rfl, HB.out⟩
    | false =>
      by_cases h2 : 16 ≤ c.length
      · have h2i : (16 : Int) ≤ (c.length : Int) := by omega
        by_cases h3 : c.length ≤ 224
        · have h3i : (c.length : Int) ≤ 224 := by omega
          obtain rfl : r = true := by rw [HW.out, if_neg (by decide), decide_eq_true h1, decide_eq_true ⟨h2, h3⟩]; rfl
          clear HW h1 h2 h3
          go_enter Try.func70, Try.ntmps70
          go_wp2_with fail
          go_ret
          exact ⟨rfl, HB.out⟩
        · have h3i : ¬ (c.length : Int) ≤ 224 := by omega
          obtain rfl : r = false := by rw [HW.out, if_neg (by decide), decide_eq_false (fun (x : 16 ≤ c.length ∧ c.length ≤ 224) => h3 x.2), Bool.and_false]
          clear HW h1 h2 h3
          go_enter Try.func70, Try.ntmps70
          go_wp2_with fail
          go_ret
          exact ⟨rfl, HB.out⟩
      · have h2i : ¬ (16 : Int) ≤ (c.length : Int) := by omega
        obtain rfl : r = false := by rw [HW.out, if_neg (by decide), decide_eq_false (fun (x : 16 ≤ c.length ∧ c.length ≤ 224) => h2 x.1), Bool.and_false]
        clear HW h1 h2
        go_enter Try.func70, Try.ntmps70
        go_wp2_with fail
        go_ret
        exact ⟨rfl, HB.out⟩
  · have h1i : ((p.length : Int) != 32) = true := by rw [bne_iff_ne]; omega
    obtain rfl : r = false := by rw [HW.out, decide_eq_false h1, Bool.false_and]
    clear HW h1
    go_enter Try.func70, Try.ntmps70
    go_wp2_with fail
    go_ret
    exact ⟨rfl, HB.out⟩
set_option maxRecDepth 100000 in
set_option maxHeartbeats 4000000 in
theorem areNames_any {w : World} {H : List (List UInt8)} {A : Option Addr} {cap : Nat} (hr : RowC w [] A (tvs H)) (hl : H.length ≤ cap) (hc : cap ≤ 9223372036854775807) (hs : ∀ x ∈ H, x.length ≤ 1000000) :
    Calls Try.prog 71 #[.slice A H.length cap] w fun r w' => r = .returned (.bool (Ev.upTo (Ev.holdOk H) H.length)) ∧ w = w' := by
  have HR := Lib.hid hr
  have HS := Lib.hid hs
  have HNO : Hid (∀ k, k < H.length → Ev.holdOk H k = false → Ev.upTo (Ev.holdOk H) H.length = false) := Lib.hid (fun k hk h => Ev.upTo_no hk h)
  have HYES : Hid (∀ k, k = H.length → Ev.upTo (Ev.holdOk H) k = true → Ev.upTo (Ev.holdOk H) H.length = true) := Lib.hid (fun k e h => by rw [← e]; exact h)
  generalize Ev.upTo (Ev.holdOk H) H.length = res at HNO HYES ⊢
  clear hr hs
  go_enter Try.func71, Try.ntmps71
  go_wp2_with fail
  go_loopg [7] H.length (fun n v7 wr => ∃ k : Nat, k + n = H.length ∧ v7 = .int .i64 (k : Int) ∧ Hid (Ev.upTo (Ev.holdOk H) k = true) ∧ wr = w)
  case atStart => exact ⟨0, Nat.zero_add _, rfl, Lib.hid rfl, rfl⟩
  case round =>
    obtain ⟨k, hkn, rfl, HU, rfl⟩ := hrel
    cases gk with
    | zero =>
      have hlt : ¬ (k : Int) < (H.length : Int) := by omega
      obtain rfl : res = true := HYES.out k (by omega) HU.out
      clear HU HNO HYES hkn
      go_wp2_with fail
      go_ret
      exact ⟨rfl, rfl⟩
    | succ n =>
      have hlt : (k : Int) < (H.length : Int) := by omega
      have hk : k < H.length := by omega
      have hinc : IntKind.i64.wrap ((k : Int) + 1) = (k : Int) + 1 := by rw [IntKind.wrap_i64]; omega
      have hkc : (k : Int) < (cap : Int) := by omega
      have hk0 : (0 : Int) ≤ (k : Int) := by omega
      obtain ⟨b, off, hA, -, -, hck⟩ := RowT.get HR.out k hk
      have HXB := Lib.hid (HS.out _ (List.getElem_mem hk))
      have hgx : H.getD k [] = H[k]'hk := Ev.getD_at hk
      have HO : Hid (Ev.holdOk H k = (Pap.word 16 (H[k]'hk) && (k == 0 || bytesLess (H.getD (k - 1) []) (H[k]'hk)))) := Lib.hid (by unfold Ev.holdOk Ev.aft1; rw [hgx])
      have HPV : Hid (0 < k → ∃ y, H.getD (k - 1) [] = y ∧ wr.cell? ⟨b, off + (k - 1), none⟩ = some (.string (S y))) := Lib.hid (fun hp => by
        obtain ⟨bh', oh', hB', -, -, hcp⟩ := RowT.get HR.out (k - 1) (Nat.lt_of_le_of_lt (Nat.sub_le k 1) hk)
        rw [hA] at hB'
        injection hB' with hB'
        injection hB' with e1 e2
        exact ⟨_, Ev.getD_at (Nat.lt_of_le_of_lt (Nat.sub_le k 1) hk), by rw [e1, e2]; exact hcp⟩)
      subst hA
      generalize H[k]'hk = x at hck HXB HO
      have HW := Lib.hid (fun W => isName_any x HXB.out W)
      generalize Pap.word 16 x = wk at HW HO
      have HN := Lib.hid hkn
      have HUP : Hid (Ev.holdOk H k = true → Ev.upTo (Ev.holdOk H) (k + 1) = true) := Lib.hid (fun h => Ev.upTo_next HU.out h)
      have HNK : Hid (Ev.holdOk H k = false → res = false) := Lib.hid (HNO.out k hk)
      clear hkn hgx HXB HU
      cases wk with
      | false =>
        obtain rfl : res = false := HNK.out (by rw [HO.out]; rfl)
        clear HPV HO HNK HUP
        go_wp2_with fail
        refine (HW.out _).mono ?_
        rintro r w1 ⟨rfl, e1⟩
        rw [← e1]
        clear e1 w1
        go_wp2_with fail
        go_ret
        exact ⟨rfl, rfl⟩
      | true =>
        by_cases hz : k = 0
        · have hkz : ¬ (0 : Int) < (k : Int) := by omega
          have HT : Hid (Ev.upTo (Ev.holdOk H) (k + 1) = true) := Lib.hid (HUP.out (by rw [HO.out, show (k == 0) = true from by rw [beq_iff_eq]; exact hz]; rfl))
          clear HPV HO HNK HUP hz
          go_wp2_with fail
          refine (HW.out _).mono ?_
          rintro r w1 ⟨rfl, e1⟩
          rw [← e1]
          clear e1 w1
          go_wp2_with fail
          go_roundg n
          case measure => omega
          case rel => exact ⟨k + 1, by have := HN.out; omega, by go_num, HT, rfl⟩
        · have hkz : (0 : Int) < (k : Int) := by omega
          obtain ⟨y, hy, hcy⟩ := HPV.out (by omega)
          obtain ⟨k1, hk1⟩ : ∃ k1 : Nat, k1 = k - 1 := ⟨_, rfl⟩
          rw [← hk1] at hcy
          have hdec : IntKind.i64.wrap ((k : Int) - 1) = (k1 : Int) := by rw [IntKind.wrap_i64]; omega
          have hk1c : (k1 : Int) < (H.length : Int) := by omega
          have hk10 : (0 : Int) ≤ (k1 : Int) := by omega
          have HZ : Hid (Ev.holdOk H k = bytesLess y x) := Lib.hid (by
            rw [HO.out, hy]
            have : (k == 0) = false := by rw [beq_eq_false_iff_ne]; exact hz
            rw [this]
            rfl)
          clear HPV HO hy hz hk1
          cases hby : bytesLess y x with
          | true =>
            have HT : Hid (Ev.upTo (Ev.holdOk H) (k + 1) = true) := Lib.hid (HUP.out (by rw [HZ.out, hby]))
            clear HNK HUP HZ
            go_wp2_with fail
            refine (HW.out _).mono ?_
            rintro r w1 ⟨rfl, e1⟩
            rw [← e1]
            clear e1 w1
            go_wp2_with fail
            go_roundg n
            case measure => omega
            case rel => exact ⟨k + 1, by have := HN.out; omega, by go_num, HT, rfl⟩
          | false =>
            obtain rfl : res = false := HNK.out (by rw [HZ.out, hby])
            clear HNK HUP HZ
            go_wp2_with fail
            refine (HW.out _).mono ?_
            rintro r w1 ⟨rfl, e1⟩
            rw [← e1]
            clear e1 w1
            go_wp2_with fail
            go_ret
            exact ⟨rfl, rfl⟩
end Go.Proofs.Ytojemaaljjibiaa

namespace Go.Proofs.Ytojemaaljjibiaa
open Go.RowKit
open Go.Op (bytesLess)
set_option linter.unusedVariables false

namespace Ev
/-- May a slip be, but for its name, in a paper that is gone, or not? -/
def whoG (g : Bool) (s : Slp) : Bool := whole s && (s.e || !g)
theorem slipR_eq (g : Bool) (s : Slp) : slipR g s = (Pap.word 16 s.n && whoG g s) := by
  unfold slipR whoG whole
  generalize Pap.word 16 s.n = q1
  generalize decide (s.p.length = 32) = q2
  cases s.e <;> cases g <;> cases q1 <;> cases q2 <;> simp
def whoK (g : Bool) (L : List Slp) (i : Nat) : Bool := whoG g (L.getD i zSlp)
theorem who_all (g : Bool) (L : List Slp) : upTo (whoK g L) L.length = L.all (whoG g) := by
  rw [Bool.eq_iff_iff, upTo_iff, List.all_eq_true]
  constructor
  · intro h x hx
    obtain ⟨i, hi, rfl⟩ := List.getElem_of_mem hx
    have := h i hi
    unfold whoK at this
    rwa [getD_at hi] at this
  · intro h i hi
    unfold whoK
    rw [getD_at hi]
    exact h _ (List.getElem_mem hi)
theorem entR_eq2 (e : Ent) : entR e = (ent1 e && (upTo (whoK e.gone e.L) e.L.length && (upTo (holdOk (e.L.map Slp.n)) (e.L.map Slp.n).length && upTo (holdOk e.H) e.H.length))) := by
  rw [entR_eq, holds_all, holds_all, slips_all, who_all]
  have e1 : e.L.all (slipR e.gone) = ((e.L.map Slp.n).all (Pap.word 16) && e.L.all (whoG e.gone)) := by
    rw [Bool.eq_iff_iff, Bool.and_eq_true, List.all_eq_true, List.all_eq_true, List.all_eq_true]
    constructor
    · intro h
      refine ⟨fun x hx => ?_, fun x hx => ?_⟩
      · obtain ⟨y, hy, rfl⟩ := List.mem_map.1 hx
        have := h y hy
        rw [slipR_eq, Bool.and_eq_true] at this
        exact this.1
      · have := h x hx
        rw [slipR_eq, Bool.and_eq_true] at this
        exact this.2
    · rintro ⟨h1, h2⟩ x hx
      rw [slipR_eq, Bool.and_eq_true]
      exact ⟨h1 _ (List.mem_map_of_mem hx), h2 x hx⟩
  rw [e1]
  generalize ent1 e = q1
  generalize e.H.all (Pap.word 16) = q2
  generalize rise e.H = q3
  generalize e.L.all (whoG e.gone) = q4
  generalize (e.L.map Slp.n).all (Pap.word 16) = q5
  generalize rise (e.L.map Slp.n) = q6
  cases q1 <;> cases q2 <;> cases q3 <;> cases q4 <;> cases q5 <;> cases q6 <;> rfl
def namesK (L : List Slp) (k : Nat) : List T := (L.take k).map Slp.n
theorem namesK_step (L : List Slp) (k : Nat) (hk : k < L.length) : namesK L (k + 1) = namesK L k ++ [(L[k]'hk).n] := by
  unfold namesK
  rw [List.take_succ_eq_append_getElem hk, List.map_append]; rfl
theorem namesK_end (L : List Slp) : namesK L L.length = L.map Slp.n := by unfold namesK; rw [List.take_of_length_le (Nat.le_refl _)]
end Ev
theorem evStrInfo : (Try.prog.info? 9).map (fun i => (i.zero, i.size, i.bytes)) = some (some (.string ⟨#[]⟩), 1, 16) := by kernel_rfl
theorem evMadeStr (w : World) (n : List UInt8) : ∀ (j : Nat) (u : Value), [Value.string (S n)][j]? = some u → (w.alloc (.cells #[.string (S n)] 9)).cell? ((⟨w.heap.size, 0, none⟩ : Addr).add j) = some u := by
  intro j u hu
  cases j with
  | zero => rw [show (⟨w.heap.size, 0, none⟩ : Addr).add 0 = ⟨w.heap.size, 0, none⟩ from rfl, World.cell?_alloc_at _ _ _ _ rfl]; simpa using hu
  | succ j => simp at hu
theorem evGrownB {B : Nat} {w w3 w5 : World} {row : Option Nat} (h : Below B w w3) (hg : w3.grownBy w5 row) (hB : B ≤ w3.heap.size) (hr : ∀ k, row = some k → B ≤ k) : Below B w w5 :=
  ⟨hg.os.trans h.os, hg.tape.trans h.tape, hg.output.trans h.output, Nat.le_trans h.size hg.size, fun i hi => (hg.block i (Nat.lt_of_lt_of_le hi hB) (fun e => by have := hr i e.symm; omega)).trans (h.block i hi)⟩
set_option maxRecDepth 100000 in
set_option maxHeartbeats 16000000 in
theorem rightE_any {w : World} {e : Ent} {A B : Option Addr} {ca cb : Nat} (hin : EntIn w [] e A ca B cb) (hf : EntFew e) :
    Calls Try.prog 52 #[.agg #[.string (S e.id), .int .i64 e.cls, .int .i64 e.born, .int .i64 e.slot, .slice A e.L.length ca, .bool e.gone, .slice B e.H.length cb]] w fun r w' => r = .returned (.bool (Ev.entR e)) ∧ Below w.heap.size w w' := by
  have HE : Hid (Ev.entR e = (((Pap.word 24 e.id && Ev.rng e.cls 7 && Ev.rng e.born 1099511627776 && Ev.rng e.slot 63) && decide (1 ≤ e.L.length ∧ e.L.length ≤ 12) && decide (e.H.length ≤ 4)) &&
      (Ev.upTo (Ev.whoK e.gone e.L) e.L.length && (Ev.upTo (Ev.holdOk (e.L.map Slp.n)) (e.L.map Slp.n).length && Ev.upTo (Ev.holdOk e.H) e.H.length)))) := Lib.hid (Ev.entR_eq2 e)
  have HFH := Lib.hid hf
  have hb0 : Below w.heap.size w (w.alloc (.cells #[.string (S e.id), .int .i64 e.cls, .int .i64 e.born, .int .i64 e.slot, .slice A e.L.length ca, .bool e.gone, .slice B e.H.length cb] 33)) := (Below.refl _ w).alloc (Nat.le_refl _) _
  have HIN := Lib.hid (EntIn.at hin hb0 (s := []) (fun x hx => by cases hx))
  have hh := Has.made w 33 #[.string (S e.id), .int .i64 e.cls, .int .i64 e.born, .int .i64 e.slot, .slice A e.L.length ca, .bool e.gone, .slice B e.H.length cb]
  have hsz : w.heap.size < (w.alloc (.cells #[.string (S e.id), .int .i64 e.cls, .int .i64 e.born, .int .i64 e.slot, .slice A e.L.length ca, .bool e.gone, .slice B e.H.length cb] 33)).heap.size := by rw [asize]; omega
  have HB := Lib.hid hb0
  clear hf hb0 hin
  obtain ⟨id, cls, born, slot, L, gone, H⟩ := e
  dsimp only at *
  have HID := Lib.hid (fun W => isID_any id HFH.out.id W)
  have HR1 := Lib.hid (fun W => isIn_any cls 7 W)
  have HR2 := Lib.hid (fun W => isIn_any born 1099511627776 W)
  have HR3 := Lib.hid (fun W => isIn_any slot 63 W)
  generalize Ev.entR ⟨id, cls, born, slot, L, gone, H⟩ = res at *
  generalize Pap.word 24 id = wd at *
  generalize Ev.rng cls 7 = r1 at *
  generalize Ev.rng born 1099511627776 = r2 at *
  generalize Ev.rng slot 63 = r3 at *
  go_enter Try.func52, Try.ntmps52
  go_upto_region 1 with fail
  generalize w.alloc (.cells #[.string (S id), .int .i64 cls, .int .i64 born, .int .i64 slot, .slice A L.length ca, .bool gone, .slice B H.length cb] 33) = W0 at HB HIN hh hsz ⊢
  generalize hb0 : w.heap.size = b0 at hh hsz ⊢
  have y0 : W0.cell? ⟨b0, 0, none⟩ = some (.string (S id)) := hh.cell 0
  have y1 : W0.cell? ⟨b0, 1, none⟩ = some (.int .i64 cls) := hh.cell 1
  have y2 : W0.cell? ⟨b0, 2, none⟩ = some (.int .i64 born) := hh.cell 2
  have y3 : W0.cell? ⟨b0, 3, none⟩ = some (.int .i64 slot) := hh.cell 3
  have y4 : W0.cell? ⟨b0, 4, none⟩ = some (.slice A L.length ca) := hh.cell 4
  have y6 : W0.cell? ⟨b0, 6, none⟩ = some (.slice B H.length cb) := hh.cell 6
  have HH := Lib.hid (And.intro hh hsz)
  clear hh hsz
  cases wd with
  | false =>
    obtain rfl : res = false := by rw [HE.out]; rfl
    go_wp2_with fail
    refine (HID.out _).mono ?_
    rintro r w1 ⟨rfl, e1⟩
    rw [← e1]
    clear e1 w1
    go_wp2_with fail
    go_ret
    exact ⟨rfl, HB.out⟩
  | true =>
    go_wp2_with fail
    refine (HID.out _).mono ?_
    rintro r w1 ⟨rfl, e1⟩
    rw [← e1]
    clear e1 w1 HID y0
    go_wp2_with fail
    refine (HR1.out _).mono ?_
    rintro r w1 ⟨rfl, e1⟩
    rw [← e1]
    clear e1 w1 HR1 y1
    cases r1 with
    | false =>
      obtain rfl : res = false := by rw [HE.out]; rfl
      go_wp2_with fail
      go_ret
      exact ⟨rfl, HB.out⟩
    | true =>
      go_wp2_with fail
      refine (HR2.out _).mono ?_
      rintro r w1 ⟨rfl, e1⟩
      rw [← e1]
      clear e1 w1 HR2 y2
      cases r2 with
      | false =>
        obtain rfl : res = false := by rw [HE.out]; rfl
        go_wp2_with fail
        go_ret
        exact ⟨rfl, HB.out⟩
      | true =>
        go_wp2_with fail
        refine (HR3.out _).mono ?_
        rintro r w1 ⟨rfl, e1⟩
        rw [← e1]
        clear e1 w1 HR3 y3
        cases r3 with
        | false =>
          obtain rfl : res = false := by rw [HE.out]; rfl
          go_wp2_with fail
          go_ret
          exact ⟨rfl, HB.out⟩
        | true =>
          by_cases hL0 : L.length = 0
          · have hz : ((L.length : Int) == 0) = true := by rw [beq_iff_eq]; omega
            obtain rfl : res = false := by rw [HE.out, decide_eq_false (fun x : 1 ≤ L.length ∧ L.length ≤ 12 => by omega)]; rfl
            clear hL0
            go_wp2_with fail
            go_ret
            exact ⟨rfl, HB.out⟩
          · have hz : ((L.length : Int) == 0) = false := by rw [beq_eq_false_iff_ne]; omega
            by_cases hL1 : L.length ≤ 12
            · have hz1 : ¬ (12 : Int) < (L.length : Int) := by omega
              by_cases hH1 : H.length ≤ 4
              · have hz2 : ¬ (4 : Int) < (H.length : Int) := by omega
                replace HE : Hid (res = (Ev.upTo (Ev.whoK gone L) L.length && (Ev.upTo (Ev.holdOk (L.map Slp.n)) (L.map Slp.n).length && Ev.upTo (Ev.holdOk H) H.length))) := Lib.hid (by
                  rw [HE.out, decide_eq_true (show 1 ≤ L.length ∧ L.length ≤ 12 by omega), decide_eq_true hH1]; rfl)
                have HLB := Lib.hid (And.intro hL1 hH1)
                clear hL0 hL1 hH1
                go_upto_region 10 with fail
                clear hz hz1 hz2
                go_wp2_with fail
                obtain ⟨i0, hi0, hz0, hz1, hz2⟩ := info_parts evStrInfo
                have HI := Lib.hid (And.intro hi0 (And.intro hz0 (And.intro hz1 hz2)))
                clear hi0 hz0 hz1 hz2
                go_loopg [3, 39] L.length (fun n v3 v39 wr => ∃ k : Nat, k + n = L.length ∧ v39 = .int .i64 (k : Int) ∧ Hid (Ev.upTo (Ev.whoK gone L) k = true) ∧ wr.ownsRow W0.heap.size 9 1 v3 k (tvs (Ev.namesK L k)) ∧ Below W0.heap.size W0 wr)
                case atStart => exact ⟨0, Nat.zero_add _, rfl, Lib.hid rfl, World.ownsRow_nil _ _ _ _, Below.refl _ _⟩
                case round =>
                  obtain ⟨k, hkn, rfl, HU, hown, hbk⟩ := hrel
                  have y5 : wr.cell? ⟨b0, 5, none⟩ = some (.bool gone) := (hbk.cell (p := ⟨b0, 5, none⟩) HH.out.2).trans (HH.out.1.cell 5)
                  have y6r : wr.cell? ⟨b0, 6, none⟩ = some (.slice B H.length cb) := (hbk.cell (p := ⟨b0, 6, none⟩) HH.out.2).trans y6
                  cases gk with
                  | zero =>
                    obtain rfl : k = L.length := by omega
                    have hlt : ¬ (L.length : Int) < (L.length : Int) := by omega
                    clear hkn y5 y4 y6
                    have hus : Ev.upTo (Ev.whoK gone L) L.length = true := HU.out
                    replace HE : Hid (res = (Ev.upTo (Ev.holdOk (L.map Slp.n)) (L.map Slp.n).length && Ev.upTo (Ev.holdOk H) H.length)) := Lib.hid (by rw [HE.out, hus, Bool.true_and])
                    rw [Ev.namesK_end] at hown
                    obtain ⟨A5, ca5, rfl, hc5, hcm5, -, -, hr5⟩ := own_rowC (s := []) hown (by simp) (by decide)
                    have hlm : L.length = (L.map Slp.n).length := (List.length_map _).symm
                    have HN : Hid (∀ W, Below wr.heap.size wr W → Calls Try.prog 71 #[.slice A5 L.length ca5] W fun r w' => r = .returned (.bool (Ev.upTo (Ev.holdOk (L.map Slp.n)) (L.map Slp.n).length)) ∧ W = w') := Lib.hid (fun W hb => by
                      rw [hlm]
                      exact areNames_any (hr5.below hb) (by rw [← hlm]; exact hc5) (by simpa only [maxLen] using hcm5) (fun x hx => by
                        obtain ⟨y, hy, rfl⟩ := List.mem_map.1 hx
                        exact HFH.out.n y hy))
                    have HN2 := Lib.hid (fun W hb => areNames_any (w := W) (HIN.out.rh.below (hbk.trans hb)) HIN.out.lb HIN.out.mb HFH.out.h)
                    have HBK := Lib.hid (HB.out.trans (hbk.mono HB.out.size))
                    dsimp only at HN2
                    clear hown hus hr5 hlm hc5 hcm5
                    generalize Ev.upTo (Ev.holdOk (L.map Slp.n)) (L.map Slp.n).length = u1 at *
                    generalize Ev.upTo (Ev.holdOk H) H.length = u2' at *
                    go_wp2_with fail
                    refine (HN.out _ (Below.refl _ _)).mono ?_
                    rintro r w1 ⟨rfl, e1⟩
                    rw [← e1]
                    clear e1 w1
                    cases u1 with
                    | false =>
                      obtain rfl : res = false := by rw [HE.out]; rfl
                      go_wp2_with fail
                      go_ret
                      exact ⟨rfl, HBK.out⟩
                    | true =>
                      obtain rfl : res = u2' := by rw [HE.out]; rfl
                      go_wp2_with fail
                      refine (HN2.out _ (Below.refl _ _)).mono ?_
                      rintro r w1 ⟨rfl, e1⟩
                      rw [← e1]
                      clear e1 w1
                      go_wp2_with fail
                      go_ret
                      exact ⟨rfl, HBK.out⟩
                  | succ n =>
                    have hlt : (k : Int) < (L.length : Int) := by omega
                    have hk : k < L.length := by omega
                    have hinc : IntKind.i64.wrap ((k : Int) + 1) = (k : Int) + 1 := by have := HLB.out.1; rw [IntKind.wrap_i64]; omega
                    have hkc : (k : Int) < (ca : Int) := by have := HIN.out.la; dsimp only at this; omega
                    have hk0 : (0 : Int) ≤ (k : Int) := by omega
                    obtain ⟨bl, ol, hA, hbl, -, p0, p1, p2, p3⟩ := RowP.get (HIN.out.rl.below hbk) k hk
                    have hgx : L.getD k Ev.zSlp = L[k]'hk := Ev.getD_at hk
                    have hlx := HFH.out.n _ (List.getElem_mem hk)
                    have HST := Lib.hid (Ev.namesK_step L k hk)
                    have HO : Hid (Ev.whoK gone L k = Ev.whoG gone (L[k]'hk)) := Lib.hid (by unfold Ev.whoK; rw [hgx])
                    have HUP : Hid (Ev.whoK gone L k = true → Ev.upTo (Ev.whoK gone L) (k + 1) = true) := Lib.hid (fun h => Ev.upTo_next HU.out h)
                    have HNO : Hid (Ev.whoK gone L k = false → res = false) := Lib.hid (fun h => by rw [HE.out, Ev.upTo_no hk h]; rfl)
                    dsimp only at p0 p1 p2 p3
                    subst hA
                    generalize L[k]'hk = x at p0 p1 p2 p3 HST HO
                    obtain ⟨xn, xp, xc, xe⟩ := x
                    dsimp only at p0 p1 p2 p3 HST
                    have HOE : Hid (Ev.whoG gone ⟨xn, xp, xc, xe⟩ = (Ev.whole ⟨xn, xp, xc, xe⟩ && (xe || !gone))) := Lib.hid rfl
                    have HW := Lib.hid (fun W => isWhole_any xn xp xc xe W)
                    have HN := Lib.hid hkn
                    clear hkn hgx HU y4 y6 y6r hlx
                    generalize Ev.whole ⟨xn, xp, xc, xe⟩ = wh at HW HOE
                    go_upto_region 14 with fail
                    have HB4 := Lib.hid ((Below.refl wr.heap.size wr).alloc (Nat.le_refl _) (.cells #[.string (S xn), .string (S xp), .string (S xc), .bool xe] 51))
                    have hsl := Has.made wr 51 #[.string (S xn), .string (S xp), .string (S xc), .bool xe]
                    have hb0r : b0 < wr.heap.size := Nat.lt_of_lt_of_le HH.out.2 hbk.size
                    have y54 := (HB4.out.cell (p := ⟨b0, 5, none⟩) hb0r).trans y5
                    have H3 := Lib.hid (And.intro (own_mv hown (Mv.of_below HB4.out []) (by simp)) (hbk.trans (HB4.out.mono hbk.size)))
                    have hw4 : wr.heap.size < (wr.alloc (.cells #[.string (S xn), .string (S xp), .string (S xc), .bool xe] 51)).heap.size := by rw [asize]; omega
                    clear hown hbk y5 p0 p1 p2 p3 HB4 hbl
                    generalize wr.alloc (.cells #[.string (S xn), .string (S xp), .string (S xc), .bool xe] 51) = W4 at hsl y54 H3 hw4 ⊢
                    generalize wr.heap.size = sb at hsl hb0r hw4 ⊢
                    have x0 : W4.cell? ⟨sb, 0, none⟩ = some (.string (S xn)) := hsl.cell 0
                    have x1 : W4.cell? ⟨sb, 1, none⟩ = some (.string (S xp)) := hsl.cell 1
                    have x2 : W4.cell? ⟨sb, 2, none⟩ = some (.string (S xc)) := hsl.cell 2
                    have x3 : W4.cell? ⟨sb, 3, none⟩ = some (.bool xe) := hsl.cell 3
                    clear hsl
                    go_wp2_with fail
                    refine (HW.out _).mono ?_
                    rintro r w1 ⟨rfl, hb1⟩
                    have c0 := (hb1.cell (p := ⟨sb, 0, none⟩) hw4).trans x0
                    have c3 := (hb1.cell (p := ⟨sb, 3, none⟩) hw4).trans x3
                    have z5 := (hb1.cell (p := ⟨b0, 5, none⟩) (Nat.lt_trans hb0r hw4)).trans y54
                    have H4 := Lib.hid (And.intro (own_mv H3.out.1 (Mv.of_below hb1 []) (by simp)) (H3.out.2.trans (hb1.mono H3.out.2.size)))
                    have HSZ := Lib.hid H4.out.2.size
                    have HO2 := Lib.hid (H4.out.1.alloc (.cells #[.string (S xn)] 9))
                    have HM := Lib.hid (evMadeStr w1 xn)
                    have hkb : k ≤ 12 := by have := HLB.out.1; omega
                    clear hb1 x0 x1 x2 x3 y54 H3 HW hb0r hw4
                    cases wh with
                    | false =>
                      obtain rfl : res = false := HNO.out (by rw [HO.out, HOE.out]; rfl)
                      go_wp2_with fail
                      go_ret
                      exact ⟨rfl, HB.out.trans (H4.out.2.mono HB.out.size)⟩
                    | true =>
                      cases gone with
                      | false =>
                        have HUP2 := Lib.hid (HUP.out (by rw [HO.out, HOE.out]; cases xe <;> rfl))
                        clear HUP HNO HO HOE
                        go_wp2_with (at_builtin; refine wpList_append_own _ rfl (.tmp 55) (.tmp 58) 31 rfl W0.heap.size 9 i0 (.string ⟨#[]⟩) 1 16 Try.underlying31 HI.out.1 HI.out.2.1 HI.out.2.2.1 HI.out.2.2.2 rfl (by decide) u3 k (tvs (Ev.namesK L k)) rfl HO2.out ⟨w1.heap.size, 0, none⟩ 1 1 [.string (S xn)] rfl rfl HM.out (by simp [Value.oneCell']) (by simp only [maxLen]; omega) (by omega) (by have := HSZ.out; simp; omega) ?_; intro v8 w3 hown3 hg3 hnil3)
                        have hg3' := grown_alloc _ hg3
                        have HREL : Hid (w3.ownsRow W0.heap.size 9 1 v8 (k + 1) (tvs (Ev.namesK L (k + 1))) ∧ Below W0.heap.size W0 w3) := Lib.hid ⟨by rw [HST.out, ← tvs_snoc]; exact hown3, evGrownB H4.out.2 hg3' HSZ.out (fun q hq => (H4.out.1.lt q hq).1)⟩
                        clear hown3 hg3 hnil3 hg3' c0 c3 z5
                        go_wp2_with fail
                        go_roundg n
                        case measure => omega
                        case rel => exact ⟨k + 1, by have := HN.out; omega, by go_num, HUP2, HREL.out.1, HREL.out.2⟩
                      | true =>
                        cases xe with
                        | false =>
                          obtain rfl : res = false := HNO.out (by rw [HO.out, HOE.out]; rfl)
                          go_wp2_with fail
                          go_ret
                          exact ⟨rfl, HB.out.trans (H4.out.2.mono HB.out.size)⟩
                        | true =>
                          have HUP2 := Lib.hid (HUP.out (by rw [HO.out, HOE.out]; rfl))
                          clear HUP HNO HO HOE
                          go_wp2_with (at_builtin; refine wpList_append_own _ rfl (.tmp 55) (.tmp 58) 31 rfl W0.heap.size 9 i0 (.string ⟨#[]⟩) 1 16 Try.underlying31 HI.out.1 HI.out.2.1 HI.out.2.2.1 HI.out.2.2.2 rfl (by decide) u3 k (tvs (Ev.namesK L k)) rfl HO2.out ⟨w1.heap.size, 0, none⟩ 1 1 [.string (S xn)] rfl rfl HM.out (by simp [Value.oneCell']) (by simp only [maxLen]; omega) (by omega) (by have := HSZ.out; simp; omega) ?_; intro v8 w3 hown3 hg3 hnil3)
                          have hg3' := grown_alloc _ hg3
                          have HREL : Hid (w3.ownsRow W0.heap.size 9 1 v8 (k + 1) (tvs (Ev.namesK L (k + 1))) ∧ Below W0.heap.size W0 w3) := Lib.hid ⟨by rw [HST.out, ← tvs_snoc]; exact hown3, evGrownB H4.out.2 hg3' HSZ.out (fun q hq => (H4.out.1.lt q hq).1)⟩
                          clear hown3 hg3 hnil3 hg3' c0 c3 z5
                          go_wp2_with fail
                          go_roundg n
                          case measure => omega
                          case rel => exact ⟨k + 1, by have := HN.out; omega, by go_num, HUP2, HREL.out.1, HREL.out.2⟩
              · have hz2 : (4 : Int) < (H.length : Int) := by omega
                obtain rfl : res = false := by rw [HE.out, decide_eq_false hH1, Bool.and_false]; rfl
                clear hL0 hL1 hH1
                go_wp2_with fail
                go_ret
                exact ⟨rfl, HB.out⟩
            · have hz1 : (12 : Int) < (L.length : Int) := by omega
              obtain rfl : res = false := by rw [HE.out, decide_eq_false (fun x : 1 ≤ L.length ∧ L.length ≤ 12 => by omega)]; rfl
              clear hL0 hL1
              go_wp2_with fail
              go_ret
              exact ⟨rfl, HB.out⟩
end Go.Proofs.Ytojemaaljjibiaa
