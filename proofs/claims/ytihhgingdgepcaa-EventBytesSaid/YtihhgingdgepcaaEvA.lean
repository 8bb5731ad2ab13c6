/-
  Event's isIn, isWhole, areNames.
-/
import Derived.Test.YtihhgingdgepcaaPapWd
import Derived.Test.YtihhgingdgepcaaEvMem
import Derived.Deep.LoopGhost
import Derived.Laws.Cover1
namespace Go.Proofs.Ytihhgingdgepcaa
open Go.RowKit
open Go.Op (bytesLess)
set_option linter.unusedVariables false

namespace Ev
theorem rng_way (n m : Int) : (¬ (0 : Int) ≤ n ∧ Ev.rng n m = false) ∨ ((0 : Int) ≤ n ∧ ¬ n ≤ m ∧ Ev.rng n m = false) ∨ ((0 : Int) ≤ n ∧ n ≤ m ∧ Ev.rng n m = true) := by
  unfold Ev.rng
  by_cases a1 : (0 : Int) ≤ n
  · by_cases a2 : n ≤ m
    · exact Or.inr (Or.inr ⟨a1, a2, decide_eq_true ⟨a1, a2⟩⟩)
    · exact Or.inr (Or.inl ⟨a1, a2, decide_eq_false (fun x => a2 x.2)⟩)
  · exact Or.inl ⟨a1, decide_eq_false (fun x => a1 x.1)⟩
theorem upTo_no {f : Nat → Bool} {n k : Nat} (hk : k < n) (h : f k = false) : upTo f n = false := by
  cases hu : upTo f n with
  | false => rfl
  | true =>
    have := (upTo_iff f n).1 hu k hk
    rw [h] at this
    cases this
theorem upTo_next {f : Nat → Bool} {k : Nat} (h : upTo f k = true) (hf : f k = true) : upTo f (k + 1) = true := by
  show (upTo f k && f k) = true
  rw [h, hf]; rfl
/-- May a slip be, but for its name? -/
def whole (s : Slp) : Bool := decide (s.p.length = 32) && (if s.e then decide (s.c.length = 0) else decide (16 ≤ s.c.length ∧ s.c.length ≤ 224))
end Ev
theorem isIn_any (n m : Int) (w : World) : Calls Try.prog 35 #[.int .i64 n, .int .i64 m] w fun r w' => r = .returned (.bool (Ev.rng n m)) ∧ w = w' := by
  rcases Ev.rng_way n m with ⟨a, h⟩ | ⟨a, b, h⟩ | ⟨a, b, h⟩
  all_goals
    rw [h]; clear h
    go_enter Try.func35, Try.ntmps35
    go_wp2_with fail
    go_ret
    exact ⟨rfl, rfl⟩
set_option maxRecDepth 100000 in
set_option maxHeartbeats 4000000 in
theorem isWhole_any (n p c : List UInt8) (e : Bool) (w : World) : Calls Try.prog 53 #[.agg #[.string (S n), .string (S p), .string (S c), .bool e]] w fun r w' => r = .returned (.bool (Ev.whole ⟨n, p, c, e⟩)) ∧ Below w.heap.size w w' := by
  have HB : Hid (Below w.heap.size w (w.alloc (.cells #[.string (S n), .string (S p), .string (S c), .bool e] 60))) := Lib.hid ((Below.refl _ w).alloc (Nat.le_refl _) _)
  have HW : Hid (Ev.whole ⟨n, p, c, e⟩ = (decide (p.length = 32) && (if e then decide (c.length = 0) else decide (16 ≤ c.length ∧ c.length ≤ 224)))) := Lib.hid rfl
  generalize Ev.whole ⟨n, p, c, e⟩ = r at HW ⊢
  by_cases h1 : p.length = 32
  · have h1i : ((p.length : Int) != 32) = false := by rw [bne_eq_false_iff_eq]; omega
    cases e with
    | true =>
      by_cases h2 : c = []
      · obtain rfl : r = true := by rw [HW.out, h1, h2]; rfl
        subst h2
        clear HW h1
        go_enter Try.func53, Try.ntmps53
        go_wp2_with fail
        go_ret
        exact ⟨rfl, HB.out⟩
      · have h2b : (c == []) = false := by rw [beq_eq_false_iff_ne]; exact h2
        obtain rfl : r = false := by rw [HW.out, if_pos rfl, decide_eq_false (fun e => h2 (List.length_eq_zero_iff.1 e)), Bool.and_false]
        clear HW h1 h2
        go_enter Try.func53, Try.ntmps53
        go_wp2_with fail
        go_ret
        exact ⟨rfl, HB.out⟩
    | false =>
      by_cases h2 : 16 ≤ c.length
      · have h2i : (16 : Int) ≤ (c.length : Int) := by omega
        by_cases h3 : c.length ≤ 224
        · have h3i : (c.length : Int) ≤ 224 := by omega
          obtain rfl : r = true := by rw [HW.out, if_neg (by decide), decide_eq_true h1, decide_eq_true ⟨h2, h3⟩]; rfl
          clear HW h1 h2 h3
          go_enter Try.func53, Try.ntmps53
          go_wp2_with fail
          go_ret
          exact ⟨rfl, HB.out⟩
        · have h3i : ¬ (c.length : Int) ≤ 224 := by omega
          obtain rfl : r = false := by rw [HW.out, if_neg (by decide), decide_eq_false (fun (x : 16 ≤ c.length ∧ c.length ≤ 224) => h3 x.2), Bool.and_false]
          clear HW h1 h2 h3
          go_enter Try.func53, Try.ntmps53
          go_wp2_with fail
          go_ret
          exact ⟨rfl, HB.out⟩
      · have h2i : ¬ (16 : Int) ≤ (c.length : Int) := by omega
        obtain rfl : r = false := by rw [HW.out, if_neg (by decide), decide_eq_false (fun (x : 16 ≤ c.length ∧ c.length ≤ 224) => h2 x.1), Bool.and_false]
        clear HW h1 h2
        go_enter Try.func53, Try.ntmps53
        go_wp2_with fail
        go_ret
        exact ⟨rfl, HB.out⟩
  · have h1i : ((p.length : Int) != 32) = true := by rw [bne_iff_ne]; omega
    obtain rfl : r = false := by rw [HW.out, decide_eq_false h1, Bool.false_and]
    clear HW h1
    go_enter Try.func53, Try.ntmps53
    go_wp2_with fail
    go_ret
    exact ⟨rfl, HB.out⟩
set_option maxRecDepth 100000 in
set_option maxHeartbeats 4000000 in
theorem areNames_any {w : World} {H : List (List UInt8)} {A : Option Addr} {cap : Nat} (hr : RowC w [] A (tvs H)) (hl : H.length ≤ cap) (hc : cap ≤ 9223372036854775807) (hs : ∀ x ∈ H, x.length ≤ 1000000) :
    Calls Try.prog 54 #[.slice A H.length cap] w fun r w' => r = .returned (.bool (Ev.upTo (Ev.holdOk H) H.length)) ∧ w = w' := by
  have HR := Lib.hid hr
  have HS := Lib.hid hs
  have HNO : Hid (∀ k, k < H.length → Ev.holdOk H k = false → Ev.upTo (Ev.holdOk H) H.length = false) := Lib.hid (fun k hk h => Ev.upTo_no hk h)
  have HYES : Hid (∀ k, k = H.length → Ev.upTo (Ev.holdOk H) k = true → Ev.upTo (Ev.holdOk H) H.length = true) := Lib.hid (fun k e h => by rw [← e]; exact h)
  generalize Ev.upTo (Ev.holdOk H) H.length = res at HNO HYES ⊢
  clear hr hs
  go_enter Try.func54, Try.ntmps54
  go_wp2_with fail
  go_loopg [7] H.length (fun n v7 wr => ∃ k : Nat, k + n = H.length ∧ v7 = .int .i64 (k : Int) ∧ Hid (Ev.upTo (Ev.holdOk H) k = true) ∧ wr = w)
  case atStart => exact ⟨0, Nat.zero_add _, rfl, Lib.hid rfl, rfl⟩
  case round =>
    obtain ⟨k, hkn, rfl, HU, rfl⟩ := hrel
    cases gk with
    | zero =>
      have hlt : ¬ (k : Int) < (H.length : Int) := by omega
      obtain rfl : res = true := HYES.out k (by omega) HU.out
      clear HU HNO HYES hkn
      go_wp2_with fail
      go_ret
      exact ⟨rfl, rfl⟩
    | succ n =>
      have hlt : (k : Int) < (H.length : Int) := by omega
      have hk : k < H.length := by omega
      have hinc : IntKind.i64.wrap ((k : Int) + 1) = (k : Int) + 1 := by rw [IntKind.wrap_i64]; omega
      have hkc : (k : Int) < (cap : Int) := by omega
      have hk0 : (0 : Int) ≤ (k : Int) := by omega
      obtain ⟨b, off, hA, -, -, hck⟩ := RowT.get HR.out k hk
      have HXB := Lib.hid (HS.out _ (List.getElem_mem hk))
      have hgx : H.getD k [] = H[k]'hk := Ev.getD_at hk
      have HO : Hid (Ev.holdOk H k = (Pap.word 16 (H[k]'hk) && (k == 0 || bytesLess (H.getD (k - 1) []) (H[k]'hk)))) := Lib.hid (by unfold Ev.holdOk Ev.aft1; rw [hgx])
      have HPV : Hid (0 < k → ∃ y, H.getD (k - 1) [] = y ∧ wr.cell? ⟨b, off + (k - 1), none⟩ = some (.string (S y))) := Lib.hid (fun hp => by
        obtain ⟨bh', oh', hB', -, -, hcp⟩ := RowT.get HR.out (k - 1) (Nat.lt_of_le_of_lt (Nat.sub_le k 1) hk)
        rw [hA] at hB'
        injection hB' with hB'
        injection hB' with e1 e2
        exact ⟨_, Ev.getD_at (Nat.lt_of_le_of_lt (Nat.sub_le k 1) hk), by rw [e1, e2]; exact hcp⟩)
      subst hA
      generalize H[k]'hk = x at hck HXB HO
      have HW := Lib.hid (fun W => isName_any x HXB.out W)
      generalize Pap.word 16 x = wk at HW HO
      have HN := Lib.hid hkn
      have HUP : Hid (Ev.holdOk H k = true → Ev.upTo (Ev.holdOk H) (k + 1) = true) := Lib.hid (fun h => Ev.upTo_next HU.out h)
      have HNK : Hid (Ev.holdOk H k = false → res = false) := Lib.hid (HNO.out k hk)
      clear hkn hgx HXB HU
      cases wk with
      | false =>
        obtain rfl : res = false := HNK.out (by rw [HO.out]; rfl)
        clear HPV HO HNK HUP
        go_wp2_with fail
        refine (HW.out _).mono ?_
        rintro r w1 ⟨rfl, e1⟩
        rw [← e1]
        clear e1 w1
        go_wp2_with fail
        go_ret
        exact ⟨rfl, rfl⟩
      | true =>
        by_cases hz : k = 0
        · have hkz : ¬ (0 : Int) < (k : Int) := by omega
          have HT : Hid (Ev.upTo (Ev.holdOk H) (k + 1) = true) := Lib.hid (HUP.out (by rw [HO.out, show (k == 0) = true from by rw [beq_iff_eq]; exact hz]; rfl))
          clear HPV HO HNK HUP hz
          go_wp2_with fail
          refine (HW.out _).mono ?_
          rintro r w1 ⟨rfl, e1⟩
          rw [← e1]
          clear e1 w1
          go_wp2_with fail
          go_roundg n
          case measure => omega
          case rel => exact ⟨k + 1, by have := HN.out; omega, by go_num, HT, rfl⟩
        · have hkz : (0 : Int) < (k : Int) := by omega
          obtain ⟨y, hy, hcy⟩ := HPV.out (by omega)
          obtain ⟨k1, hk1⟩ : ∃ k1 : Nat, k1 = k - 1 := ⟨_, rfl⟩
          rw [← hk1] at hcy
          have hdec : IntKind.i64.wrap ((k : Int) - 1) = (k1 : Int) := by rw [IntKind.wrap_i64]; omega
          have hk1c : (k1 : Int) < (H.length : Int) := by omega
          have hk10 : (0 : Int) ≤ (k1 : Int) := by omega
          have HZ : Hid (Ev.holdOk H k = bytesLess y x) := Lib.hid (by
            rw [HO.out, hy]
            have : (k == 0) = false := by rw [beq_eq_false_iff_ne]; exact hz
            rw [this]
            rfl)
          clear HPV HO hy hz hk1
          cases hby : bytesLess y x with
          | true =>
            have HT : Hid (Ev.upTo (Ev.holdOk H) (k + 1) = true) := Lib.hid (HUP.out (by rw [HZ.out, hby]))
            clear HNK HUP HZ
            go_wp2_with fail
            refine (HW.out _).mono ?_
            rintro r w1 ⟨rfl, e1⟩
            rw [← e1]
            clear e1 w1
            go_wp2_with fail
            go_roundg n
            case measure => omega
            case rel => exact ⟨k + 1, by have := HN.out; omega, by go_num, HT, rfl⟩
          | false =>
            obtain rfl : res = false := HNK.out (by rw [HZ.out, hby])
            clear HNK HUP HZ
            go_wp2_with fail
            refine (HW.out _).mono ?_
            rintro r w1 ⟨rfl, e1⟩
            rw [← e1]
            clear e1 w1
            go_wp2_with fail
            go_ret
            exact ⟨rfl, rfl⟩
end Go.Proofs.Ytihhgingdgepcaa
