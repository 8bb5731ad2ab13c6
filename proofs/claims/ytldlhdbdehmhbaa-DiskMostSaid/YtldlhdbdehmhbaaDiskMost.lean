/-
  The contract of DiskMost.
-/
import Derived.Test.YtldlhdbdehmhbaaDskAw
import Derived.Test.YtldlhdbdehmhbaaLaw
import Derived.Test.YtldlhdbdehmhbaaRows
namespace Go.Proofs.Ytldlhdbdehmhbaa
open Go.ChangeShapes Go.WideShapes Go.ChangeAt Go.RowKit
open Go.ChangeMaps (open_string shut_string)
set_option linter.unusedVariables false

theorem size_any {w : World} {g bd mb : Nat} {d : Dsk.St} (h : DiskAt w g bd mb d) :
    Calls Try.prog 14 #[.pointer (some ⟨g, 0, none⟩)] w fun r w' => r = .returned (.int .i64 (d.secs.length : Int)) ∧ w = w' := by
  have HW := Lib.hid (works_any h)
  obtain ⟨l0, k0, t0, hc, _⟩ := h.cells
  obtain ⟨c0, _⟩ := cells9 hc
  generalize d.secs.length = n at c0 ⊢
  clear hc h
  go_enter Try.func14, Try.ntmps14
  go_wp2_with fail
  refine HW.out.mono ?_
  rintro r w1 ⟨rfl, rfl⟩
  go_wp2_with fail
  go_ret
  exact ⟨rfl, rfl⟩
namespace Dsk
theorem most1 (n : Nat) (h0 : 0 < n) (y : T) (hy : y.length = 64) : (write (fresh n) ((n : Int) - 1) y).1 = 0 ∧ (write (fresh n) ((n : Int) - 1) y).2.up = true ∧ (write (fresh n) ((n : Int) - 1) y).2.secs.length = n ∧ (write (fresh n) ((n : Int) - 1) y).2.acts = 1 ∧ (write (fresh n) ((n : Int) - 1) y).2.falls = 0 := by
  have hl : (fresh n).secs.length = n := List.length_replicate
  have e : write (fresh n) ((n : Int) - 1) y = (0, put { fresh n with acts := 1 } ((n : Int) - 1).toNat y) := by
    unfold write
    rw [if_neg (show ¬ ((fresh n).up = false) from fun h => by cases h), if_neg (by rw [hl]; omega), if_neg (by omega)]
    rfl
  rw [e]
  refine ⟨rfl, rfl, ?_, rfl, rfl⟩
  show (List.modify _ _ _).length = n
  rw [List.length_modify]
  exact hl
theorem most2 (d : St) (n : Nat) (y : T) (hu : d.up = true) (hn : d.secs.length = n) : write d (n : Int) y = (5, d) := by
  unfold write
  rw [if_neg (by rw [hu]; decide), if_pos (by rw [hn]; omega)]
end Dsk
def one64 : List UInt8 := List.replicate 64 1
theorem fill1 (W : World) : Calls Try.prog 8 #[.int .u8 1, .int .i64 64] W fun e w' => e = .returned (.string (S one64)) ∧ Below W.heap.size W w' := fill_any 1 64 (by decide) W

set_option maxRecDepth 100000 in
set_option maxHeartbeats 1000000 in
theorem most_at (n : Nat) (m : Int) (hm : m = (n : Int) - 8192) (h0 : n = 8191 ∨ n = 8192) (w : World) :
    Calls Try.prog 4 #[.int .i64 m] w fun e w' => e = .returned (.bool true) ∧ Below w.heap.size w w' := by
  have HNEW := Lib.hid (newd_any n (by omega) (by omega) w)
  have HX : Hid _ := fun W => fill1 W
  have HAW : Hid _ := fun W => awake_any W
  obtain ⟨q1, q2, q3, q4, q5⟩ := Dsk.most1 n (by omega) one64 List.length_replicate
  have HW1 : Hid (∀ (W : World) (g bd mb : Nat), DiskAt W g bd mb (Dsk.fresh n) → Calls Try.prog 7 #[.pointer (some ⟨g, 0, none⟩), .int .i64 ((n : Int) - 1), .string (S one64)] W (DPost W g bd mb 0 (Dsk.write (Dsk.fresh n) ((n : Int) - 1) one64).2)) := Lib.hid (fun W g bd mb h => by
    have := write_any h (show (0 : Nat) < 1000000000000 by decide) (show (0 : Nat) < 1000000000000 by decide) ((n : Int) - 1) one64 (by decide)
    rw [q1] at this
    exact this)
  have q6 := Dsk.most2 (Dsk.write (Dsk.fresh n) ((n : Int) - 1) one64).2 n one64 q2 q3
  have HW2 : Hid (∀ (W : World) (g bd mb : Nat), DiskAt W g bd mb (Dsk.write (Dsk.fresh n) ((n : Int) - 1) one64).2 → Calls Try.prog 7 #[.pointer (some ⟨g, 0, none⟩), .int .i64 (n : Int), .string (S one64)] W (DPost W g bd mb 5 (Dsk.write (Dsk.fresh n) ((n : Int) - 1) one64).2)) := Lib.hid (fun W g bd mb h => by
    have := write_any h (by rw [q4]; decide) (by rw [q5]; decide) (n : Int) one64 (by decide)
    rw [q6] at this
    exact this)
  have hlen : (Dsk.fresh n).secs.length = n := List.length_replicate
  have HSZ : Hid (∀ (W : World) (g bd mb : Nat), DiskAt W g bd mb (Dsk.fresh n) → Calls Try.prog 14 #[.pointer (some ⟨g, 0, none⟩)] W fun r w' => r = .returned (.int .i64 (n : Int)) ∧ W = w') := Lib.hid (fun W g bd mb h => by
    have := size_any h
    rw [hlen] at this
    exact this)
  clear q1 q2 q3 q4 q5 q6 hlen
  generalize (Dsk.write (Dsk.fresh n) ((n : Int) - 1) one64).2 = d1 at HW1 HW2
  generalize one64 = x at HX HW1 HW2
  unfold NewDPost at HNEW
  generalize Dsk.fresh n = d0 at HNEW HW1 HSZ
  have m1 : (8192 : Int) + m = (n : Int) := by omega
  have m2 : (8191 : Int) + m = (n : Int) - 1 := by omega
  have m3 : ¬ m < -1 := by omega
  have m4 : ¬ 1 < m := by omega
  have m5 : (m == 1) = false := by rw [beq_eq_false_iff_ne]; omega
  have w1 : IntKind.i64.wrap (n : Int) = (n : Int) := by rw [IntKind.wrap_i64]; omega
  have w2 : IntKind.i64.wrap ((n : Int) - 1) = (n : Int) - 1 := by rw [IntKind.wrap_i64]; omega
  clear hm h0
  go_enter Try.func4, Try.ntmps4
  go_wp2_with fail
  refine HNEW.out.mono ?_
  rintro r w1' ⟨g, bd, mb, rfl, hd, hb, hg, hbd, hmb⟩
  have hs : ∀ k ∈ [g, bd, mb], w.heap.size ≤ k := by
    intro k hk
    simp only [List.mem_cons, List.not_mem_nil, or_false] at hk
    rcases hk with rfl | rfl | rfl
    · exact hg
    · exact hbd
    · exact hmb
  have H := Lib.hid (And.intro hd hb)
  have HS0 : Hid _ := hs
  clear hd hb hs hg hbd hmb
  go_wp2_with fail
  refine (HSZ.out _ _ _ _ H.out.1).mono ?_
  rintro r w2' ⟨rfl, rfl⟩
  go_wp2_with fail
  refine (HX.out _).mono ?_
  rintro r w2 ⟨rfl, hb⟩
  replace H := Lib.hid (And.intro (H.out.1.below hb) (H.out.2.trans (hb.mono H.out.2.size)))
  clear hb
  go_wp2_with fail
  refine (HW1.out _ _ _ _ H.out.1).mono ?_
  rintro r w3 ⟨rfl, hd, hm⟩
  replace H := Lib.hid (And.intro hd (hm.below H.out.2 H.out.2.size HS0.out))
  clear hd hm
  go_wp2_with fail
  refine (HX.out _).mono ?_
  rintro r w4 ⟨rfl, hb⟩
  replace H := Lib.hid (And.intro (H.out.1.below hb) (H.out.2.trans (hb.mono H.out.2.size)))
  clear hb
  go_wp2_with fail
  refine (HW2.out _ _ _ _ H.out.1).mono ?_
  rintro r w5 ⟨rfl, hd, hm⟩
  replace H := Lib.hid (hm.below H.out.2 H.out.2.size HS0.out)
  clear hd hm
  go_wp2_with fail
  refine (HAW.out _).mono ?_
  rintro r w6 ⟨rfl, hb⟩
  replace H := Lib.hid (H.out.trans (hb.mono H.out.size))
  clear hb
  go_wp2_with fail
  go_ret
  exact ⟨rfl, H.out⟩
set_option maxRecDepth 100000 in
set_option maxHeartbeats 1000000 in
theorem most_any (m : Int) (w : World) :
    Calls Try.prog 4 #[.int .i64 m] w fun e w' => e = .returned (.bool true) ∧ Below w.heap.size w w' := by
  by_cases h0 : m = 0
  · exact most_at 8192 m (by omega) (Or.inr rfl) w
  · by_cases h1 : m = -1
    · exact most_at 8191 m (by omega) (Or.inl rfl) w
    · have HAW : Hid _ := fun W => awake_any W
      by_cases h2 : m = 1
      · subst h2
        have HN := Lib.hid (newd_bad 8193 (Or.inr (by decide)) w)
        clear h0 h1
        go_enter Try.func4, Try.ntmps4
        go_wp2_with fail
        refine HN.out.mono ?_
        rintro r w1 ⟨rfl, rfl⟩
        go_wp2_with fail
        refine (HAW.out _).mono ?_
        rintro r w6 ⟨rfl, hb⟩
        go_wp2_with fail
        go_ret
        exact ⟨rfl, hb⟩
      · by_cases h3 : m < -1
        · go_enter Try.func4, Try.ntmps4
          go_wp2_with fail
          refine (HAW.out _).mono ?_
          rintro r w6 ⟨rfl, hb⟩
          go_wp2_with fail
          go_ret
          exact ⟨rfl, hb⟩
        · have h4 : 1 < m := by omega
          go_enter Try.func4, Try.ntmps4
          go_wp2_with fail
          refine (HAW.out _).mono ?_
          rintro r w6 ⟨rfl, hb⟩
          go_wp2_with fail
          go_ret
          exact ⟨rfl, hb⟩
set_option maxRecDepth 100000 in
theorem diskMost_contract {H : Type} (enc : TypeId × Value → H) (W : World) (base : Nat) (args : Array Value) (ds gs : List (DataW H)) (before : List MemPlace)
    (hval : ∀ (j : Nat) t v, Try.f4.params[j]? = some t → args[j]? = some v → Value.okWide Try.prog W .any base t v)
    (hW : DataW.Whole enc Try.prog Try.f4.params.toList Rows.diskMostSpec.vars false W args.toList ds gs before)
    (hsz : (DataW.weightsEach Try.prog (Try.f4.params.toList ++ Rows.diskMostSpec.plain.varTypes Try.prog) (ds ++ gs)).all (· ≤ reachBytes) = true) :
    Calls Try.prog 4 args W fun e W' =>
      ((Rows.diskMostSpec.fn H (ds ++ gs)).results = [.lit (.bool true)] ∧ (Rows.diskMostSpec.fn H (ds ++ gs)).args = ds ∧ (Rows.diskMostSpec.fn H (ds ++ gs)).vars = []) ∧ e = .returned (.bool true) ∧ Below W.heap.size W W' := by
  obtain ⟨p, q, hA0, hV, rfl, hfz, hnd⟩ := hW
  have hA : DataW.TrodAll enc Try.prog W 0 (fun _ => true) true Try.f4.params.toList args.toList ds p := hA0
  rw [Try.params4] at hA hval hsz
  obtain ⟨v0, d0, rfl, rfl, h0⟩ := trodAll_one hA
  obtain ⟨rfl, rfl⟩ := trodVars_none hV
  obtain ⟨m, rfl, rfl, rfl, bd_m⟩ := open_int Try.underlying3 (hval 0 3 v0 rfl rfl) h0
  exact (most_any m W).mono fun e W' h => ⟨⟨rfl, rfl, rfl⟩, h⟩

end Go.Proofs.Ytldlhdbdehmhbaa
