/-
  A queue in memory: find.
-/
import Derived.Test.YtjmdpepghnhpkaaQueB
import Derived.Test.YtjmdpepghnhpkaaHeapSub
namespace Go.Proofs.Ytjmdpepghnhpkaa
open Go.RowKit
set_option linter.unusedVariables false

set_option maxRecDepth 100000 in
theorem dropIs_any (a b seq : Int) (c : Nat) (w : World) (hc : w.cell? ⟨c, 0, none⟩ = some (.int .i64 seq)) (hB : c < w.heap.size) :
    Calls Try.prog 33 #[.agg #[.int .i64 a, .int .i64 b], .pointer (some ⟨c, 0, none⟩)] w fun r w' => r = .returned (.bool (a == seq)) ∧ Below w.heap.size w w' := by
  have hb : Below w.heap.size w (w.alloc (.cells #[.int .i64 a, .int .i64 b] 34)) := (Below.refl _ w).alloc (Nat.le_refl _) _
  cases he : a == seq
  all_goals
    go_enter Try.func33, Try.ntmps33
    go_wp2_with fail
    go_ret
    exact ⟨rfl, hb⟩
/-- Which dues find looks for. -/
abbrev Du.suit (now : Int) (p : Du → Bool) (d : Du) : Bool := decide (d.due ≤ now) && p d
set_option maxRecDepth 100000 in
set_option maxHeartbeats 8000000 in
theorem find_go {w : World} {q : Nat} {s : List Nat} {h : List Du} (H : QRep w q s h) (hh : Du.Heap h) (hl : h.length ≤ 1000000) (now : Int) (p : Du → Bool) (g : Nat) (cb : Array Value) (eg : ∀ args w, (callFunc g args).run Try.prog w = .ok (.enter g args) w)
    (hp : ∀ (a b : Int) (W : World), Below w.heap.size w W → Calls Try.prog g (#[.agg #[.int .i64 a, .int .i64 b]] ++ cb) W fun r w' => r = .returned (.bool (p ⟨a, b⟩)) ∧ Below W.heap.size W w') :
    ∀ (n i : Nat) (W : World), h.length < i + n → i ≤ 2000002 → Below w.heap.size w W → Calls Try.prog 30 #[.pointer (some ⟨q, 0, none⟩), .int .i64 (i : Int), .int .i64 now, .func (.func g) #[] cb] W fun r w' => (∃ v, r = .returned (.int .i64 v) ∧ Du.Best h (Du.suit now p) i v) ∧ Below W.heap.size W w' := by
  intro n
  induction n with
  | zero =>
    intro i W hn hi hW
    have HLN := Lib.hid (qrlen_any (H.below hW))
    have hge : (h.length : Int) ≤ (i : Int) := by omega
    have HB : Hid (Du.Best h (Du.suit now p) i (-1)) := Lib.hid (Du.best_out (by omega))
    have HW := Lib.hid (Below.refl W.heap.size W)
    clear hp H hh hl hn hi hW
    go_enter Try.func30, Try.ntmps30
    go_wp2_with fail
    refine HLN.out.mono ?_
    rintro r w1 ⟨rfl, e1⟩
    rw [e1]
    clear e1 w1
    go_wp2_with fail
    go_ret
    exact ⟨⟨_, rfl, HB.out⟩, HW.out⟩
  | succ n ih =>
    intro i W hn hi hW
    have HLN := Lib.hid (qrlen_any (H.below hW))
    by_cases hil : i < h.length
    · obtain ⟨B, cap, rfl, hat⟩ : ∃ B cap, s = [B] ∧ HAt w q B h cap := by
        rcases H with ⟨rfl, _, _⟩ | ⟨B, cap, e, hat⟩
        · cases hil
        · exact ⟨B, cap, e, hat⟩
      have hge : ¬ (h.length : Int) ≤ (i : Int) := by omega
      have hii : (i : Int) < (h.length : Int) := by omega
      have hi0 : (0 : Int) ≤ (i : Int) := by omega
      have hatW := hat.below hW
      have hsl := hatW.slice
      obtain ⟨c0, c1⟩ := hatW.cells i hil
      have HG : Hid (Du.g h i = h[i]) := Lib.hid (Du.g_at hil)
      have HLATE := Lib.hid (fun (hd : now < h[i].due) => (Du.best_late hh (by rw [Du.g_at hil]; exact hd) : Du.Best h (Du.suit now p) i (-1)))
      have HHERE := Lib.hid (fun (h1 : h[i].due ≤ now) (h2 : p h[i] = true) => Du.best_here (P := Du.suit now p) hh hil (by rw [Du.g_at hil]; show (decide (h[i].due ≤ now) && p h[i]) = true; rw [decide_eq_true h1, h2]; rfl))
      have HDOWN := Lib.hid (fun (v : Int) (h2 : p h[i] = false) (hb : Du.BestOf h (Du.suit now p) i 2 v) => Du.best_below (by rw [Du.g_at hil]; show (decide (h[i].due ≤ now) && p h[i]) = false; rw [h2, Bool.and_false]) hb)
      have HP := Lib.hid (fun W' (hb : Below w.heap.size w W') => hp h[i].seq h[i].due W' hb)
      have HW := Lib.hid hW
      have HAT := Lib.hid hat
      have HLL := Lib.hid hl
      have HIL := Lib.hid (And.intro hil hn)
      have HIH := Lib.hid ih
      generalize h[i]'hil = X at c0 c1 HG HLATE HHERE HDOWN HP
      obtain ⟨xs, xd⟩ := X
      dsimp only at c0 c1 HLATE HHERE HP
      clear hp H hh hl hn hi hil ih hat hatW hW
      by_cases hdue : now < xd
      · have HB := Lib.hid (HLATE.out hdue)
        have HR := Lib.hid (Below.refl W.heap.size W)
        go_enter Try.func30, Try.ntmps30
        go_wp2_with fail
        refine HLN.out.mono ?_
        rintro r w1 ⟨rfl, e1⟩
        rw [e1]
        clear e1 w1
        go_wp2_with fail
        go_ret
        exact ⟨⟨_, rfl, HB.out⟩, HR.out⟩
      · have HND : Hid (xd ≤ now) := Lib.hid (by omega)
        have HPW := Lib.hid (HP.out W HW.out)
        obtain ⟨t, ht⟩ : ∃ t, p ⟨xs, xd⟩ = t := ⟨_, rfl⟩
        rw [ht] at HHERE HDOWN HPW
        clear ht HLATE HP
        go_enter Try.func30, Try.ntmps30
        go_wp2_with fail
        refine HLN.out.mono ?_
        rintro r w1 ⟨rfl, e1⟩
        rw [e1]
        clear e1 w1
        go_wp2_with fail
        refine HPW.out.mono ?_
        rintro r w1 ⟨rfl, hb1⟩
        have HB1 := Lib.hid hb1
        clear hb1 c0 c1 hsl
        cases t with
        | true =>
          have HB := Lib.hid (HHERE.out HND.out (by trivial))
          go_wp2_with fail
          go_ret
          exact ⟨⟨_, rfl, HB.out⟩, HB1.out⟩
        | false =>
          have HCH := Lib.hid (children_any (i := i) (by have := HIL.out; have := HLL.out; omega))
          have HIX := Lib.hid (run_kids i)
          have HBO := Lib.hid (Du.BestOf.none h (Du.suit now p) i)
          have HDN := Lib.hid (fun v hb => HDOWN.out v (by trivial) hb)
          generalize kidsV i = V at HCH HIX
          clear HDOWN HHERE HPW
          go_wp2_with fail
          refine (HCH.out _).mono ?_
          rintro r w2 ⟨rfl, hb2⟩
          have HB2 := Lib.hid (HB1.out.trans (hb2.mono HB1.out.size))
          clear hb2 HCH hge hii hi0
          go_wp2_with fail
          go_loopg [9, 41] 2 (fun m v9 v41 wi => ∃ (j : Nat) (f : Int), j + m = 2 ∧ v41 = .int .i64 (j : Int) ∧ v9 = .int .i64 f ∧ Hid (Du.BestOf h (Du.suit now p) i j f ∧ Below W.heap.size W wi))
          case atStart => exact ⟨0, -1, rfl, rfl, rfl, Lib.hid ⟨HBO.out, HB2.out⟩⟩
          case round =>
            obtain ⟨j, f, hjm, rfl, rfl, HI⟩ := hrel
            cases gk with
            | zero =>
              have hj2 : ¬ (j : Int) < 2 := by omega
              have HBF := Lib.hid (HDN.out f (by have := HI.out.1; rwa [show j = 2 by omega] at this))
              go_wp2_with fail
              go_ret
              exact ⟨⟨_, rfl, HBF.out⟩, HI.out.2⟩
            | succ m =>
              have hj2 : (j : Int) < 2 := by omega
              have hjn : j < 2 := by omega
              have hix := fun W => HIX.out j hjn W
              have hincj : IntKind.i64.wrap ((j : Int) + 1) = (j : Int) + 1 := by rw [IntKind.wrap_i64]; omega
              have HIHJ := Lib.hid (HIH.out (2 * i + 1 + j) wr (by have := HIL.out; omega) (by have := HIL.out; have := HLL.out; omega) (HW.out.trans (HI.out.2.mono HW.out.size)))
              have HN := Lib.hid (fun u (hb : Du.Best h (Du.suit now p) (2 * i + 1 + j) u) hn => Du.bestOf_none HI.out.1 hb hn)
              have HF := Lib.hid (fun u (hb : Du.Best h (Du.suit now p) (2 * i + 1 + j) u) h0 hf => Du.bestOf_first HI.out.1 hb h0 hf)
              have HX : Hid (∀ (k ff : Nat), f = (ff : Int) → Du.Best h (Du.suit now p) (2 * i + 1 + j) (k : Int) → (Du.lt (Du.g h k) (Du.g h ff) = true → Du.BestOf h (Du.suit now p) i (j + 1) (k : Int)) ∧ (Du.lt (Du.g h k) (Du.g h ff) = false → Du.BestOf h (Du.suit now p) i (j + 1) (ff : Int)) ∧ k < h.length ∧ ff < h.length) := Lib.hid (fun k ff e hb => by
                have h1 := HI.out.1
                rw [e] at h1
                exact ⟨Du.bestOf_lt h1 hb, Du.bestOf_ge h1 hb, hb.lt, h1.lt⟩)
              generalize 2 * i + 1 + j = c at hix HIHJ HN HF HX
              have HWI := Lib.hid HI.out.2
              clear HI
              go_wp2_with fail
              refine HIHJ.out.mono ?_
              rintro r w3 ⟨⟨u, rfl, hbest⟩, hb3⟩
              have HW3 := Lib.hid (HWI.out.trans (hb3.mono HWI.out.size))
              have HBU := Lib.hid hbest
              clear hb3 hbest HIHJ hix
              by_cases hu : 0 ≤ u
              · by_cases hf : f < 0
                · have HNX := Lib.hid (HF.out u HBU.out hu hf)
                  go_wp2_with fail
                  go_roundg m
                  case measure => omega
                  case rel => exact ⟨j + 1, u, by omega, by go_num, rfl, Lib.hid ⟨HNX.out, HW3.out⟩⟩
                · obtain ⟨k, rfl⟩ : ∃ k : Nat, u = (k : Int) := ⟨u.toNat, by omega⟩
                  obtain ⟨ff, rfl⟩ : ∃ ff : Nat, f = (ff : Int) := ⟨f.toNat, by omega⟩
                  have HXX := Lib.hid (HX.out k ff rfl HBU.out)
                  have HBF := Lib.hid (before_any (HAT.out.below (HW.out.trans (HW3.out.mono HW.out.size))) HXX.out.2.2.1 HXX.out.2.2.2)
                  obtain ⟨lt, hlt⟩ : ∃ lt, Du.lt (Du.g h k) (Du.g h ff) = lt := ⟨_, rfl⟩
                  rw [hlt] at HXX HBF
                  clear hlt HX HN HF
                  go_wp2_with fail
                  refine HBF.out.mono ?_
                  rintro r w4 ⟨rfl, hb4⟩
                  have HW4 := Lib.hid (HW3.out.trans (hb4.mono HW3.out.size))
                  clear hb4
                  cases lt with
                  | true =>
                    have HNX := Lib.hid (HXX.out.1 (by trivial))
                    go_wp2_with fail
                    go_roundg m
                    case measure => omega
                    case rel => exact ⟨j + 1, (k : Int), by omega, by go_num, rfl, Lib.hid ⟨HNX.out, HW4.out⟩⟩
                  | false =>
                    have HNX := Lib.hid (HXX.out.2.1 (by trivial))
                    go_wp2_with fail
                    go_roundg m
                    case measure => omega
                    case rel => exact ⟨j + 1, (ff : Int), by omega, by go_num, rfl, Lib.hid ⟨HNX.out, HW4.out⟩⟩
              · have HNX := Lib.hid (HN.out u HBU.out (by omega))
                go_wp2_with fail
                go_roundg m
                case measure => omega
                case rel => exact ⟨j + 1, f, by omega, by go_num, rfl, Lib.hid ⟨HNX.out, HW3.out⟩⟩
    · have hge : (h.length : Int) ≤ (i : Int) := by omega
      have HB : Hid (Du.Best h (Du.suit now p) i (-1)) := Lib.hid (Du.best_out (by omega))
      have HW := Lib.hid (Below.refl W.heap.size W)
      clear hp H hh hl hn hi hW ih hil
      go_enter Try.func30, Try.ntmps30
      go_wp2_with fail
      refine HLN.out.mono ?_
      rintro r w1 ⟨rfl, e1⟩
      rw [e1]
      clear e1 w1
      go_wp2_with fail
      go_ret
      exact ⟨⟨_, rfl, HB.out⟩, HW.out⟩
/-- find from the root: over all dues of the heap. -/
theorem find_any {w : World} {q : Nat} {s : List Nat} {h : List Du} (H : QRep w q s h) (hh : Du.Heap h) (hl : h.length ≤ 1000000) (now : Int) (p : Du → Bool) (g : Nat) (cb : Array Value) (eg : ∀ args w, (callFunc g args).run Try.prog w = .ok (.enter g args) w)
    (hp : ∀ (a b : Int) (W : World), Below w.heap.size w W → Calls Try.prog g (#[.agg #[.int .i64 a, .int .i64 b]] ++ cb) W fun r w' => r = .returned (.bool (p ⟨a, b⟩)) ∧ Below W.heap.size W w') :
    Calls Try.prog 30 #[.pointer (some ⟨q, 0, none⟩), .int .i64 0, .int .i64 now, .func (.func g) #[] cb] w fun r w' => (∃ v, r = .returned (.int .i64 v) ∧ ((v = -1 ∧ ∀ d ∈ h, Du.suit now p d = false) ∨ ∃ (k : Nat) (hk : k < h.length), v = (k : Int) ∧ Du.suit now p h[k] = true ∧ ∀ d ∈ h, Du.suit now p d = true → Du.le h[k] d)) ∧ Below w.heap.size w w' := by
  refine (find_go H hh hl now p g cb eg hp (h.length + 1) 0 w (by omega) (by omega) (Below.refl _ _)).mono ?_
  rintro r w' ⟨⟨v, rfl, hb⟩, hw⟩
  refine ⟨⟨v, rfl, ?_⟩, hw⟩
  rcases hb with ⟨rfl, h1⟩ | ⟨k, rfl, hk, _, h2, h3⟩
  · refine Or.inl ⟨rfl, fun d hd => ?_⟩
    obtain ⟨k, hk, rfl⟩ := List.getElem_of_mem hd
    have := h1 k (Du.Sub.all k) hk
    rwa [Du.g_at hk] at this
  · refine Or.inr ⟨k, hk, rfl, by rwa [Du.g_at hk] at h2, fun d hd hpd => ?_⟩
    obtain ⟨j, hj, rfl⟩ := List.getElem_of_mem hd
    have := h3 j (Du.Sub.all j) hj (by rw [Du.g_at hj]; exact hpd)
    rwa [Du.g_at hk, Du.g_at hj] at this
end Go.Proofs.Ytjmdpepghnhpkaa
