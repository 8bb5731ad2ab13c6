/-
  The contracts of the statements' own whole and awake.
-/
import Derived.Test.YtfcmkbeilpclmaaFndH
namespace Go.Proofs.Ytfcmkbeilpclmaa
open Go.RowKit Go.Lib
set_option linter.unusedVariables false

theorem madeTrm17 (w : World) (t : Fnd.Trm) {T : TypeId} : ∀ (j : Nat) (u : Value), t.cs[j]? = some u → (w.alloc (.cells t.cs.toArray T)).cell? ((⟨w.heap.size, 0, none⟩ : Addr).add j) = some u := by
  intro j u hu
  rw [add_flat', Nat.zero_add, (Has.made w T t.cs.toArray).cell j]
  rw [← hu]
  exact List.getElem?_toArray ..
theorem papSize17 : (Try.prog.info? 27).map (·.size) = some 3 := by kernel_rfl
theorem ret_pap17 {fn : Func} {p : Tmp} {R : Ending → World → Prop} {a : Act} {w : World} (h : fn.results = #[.cell p 27]) (g : Nat) (cs : Array Value)
    (hp : a.tmps.getD p undef = .pointer (some ⟨g, 0, none⟩)) (hd : a.defers = []) (hh : Has w g 27 cs) (hcs : cs.size = 3) (hR : R (.returned (.agg cs)) w) : bodyPost Try.prog fn R .ret a w :=
  bodyPost_ret (v := .agg cs) (results_cell_row h _ _ g 27 cs (0, 0) _ hp hh Try.underlying27 rfl (by rw [hcs]; exact papSize17)) hd hR
abbrev amountT : List UInt8 := [97, 109, 111, 117, 110, 116]
def wholeL (n : Int) : List Fld := [⟨amountT, ⟨2, false, n, 0, []⟩⟩]
set_option maxHeartbeats 2000000 in
theorem lwhole_any (n : Int) (hn : -9223372036854775808 ≤ n ∧ n < 9223372036854775808) (w : World) :
    Calls Try.prog 33 #[.int .i64 n] w fun r w' => ∃ g, r = .returned (.agg #[.string (S [112]), .int .i64 0, .slice (some ⟨g, 0, none⟩) 1 1]) ∧ Ppr.In ⟨[112], 0, some ⟨g, 0, none⟩, wholeL n, 1, g⟩ w' ∧ Below w.heap.size w w' := by
  have HNN := Lib.hid hn
  go_enter Try.func33, Try.ntmps33
  go_wp2_with fail
  refine ret_pap17 (p := 2) rfl w.heap.size _ rfl rfl ((Has.made w 27 #[.string (S [112]), .int .i64 0, .slice (some ⟨w.heap.size + 1, 0, none⟩) 1 1]).of_alloc _) rfl ⟨w.heap.size + 1, rfl, ⟨fun _ => ⟨0, rfl, ?_, fun i hi => ?_⟩, (show 1 ≤ 1000000 by decide), fun f hf => ?_⟩, up2 _ _⟩
  · simp
  · have hi0 : i = 0 := by
      have : i < 1 := hi
      omega
    subst hi0
    have h := has_new w (.cells #[.string (S [112]), .int .i64 0, .slice (some ⟨w.heap.size + 1, 0, none⟩) 1 1] 27) 58 #[.string (S amountT), .int .i64 2, .bool false, .int .i64 n, .int .u64 0, .string (S [])]
    exact ⟨h.cell 0, h.cell 1, h.cell 2, h.cell 3, h.cell 4, h.cell 5⟩
  · have : f = ⟨amountT, ⟨2, false, n, 0, []⟩⟩ := by simpa [wholeL] using hf
    rw [this]
    exact ⟨(show (0 : Nat) < 18446744073709551616 by decide), HNN.out, (show (-9223372036854775808 : Int) ≤ 2 ∧ (2 : Int) < 9223372036854775808 by decide)⟩

def awakeT : Fnd.Trm := ⟨amountT, ⟨2, false, 2, 0, []⟩, ⟨0, false, 0, 0, []⟩, true, false, false⟩
theorem awakeT_ok : awakeT.Ok := ⟨⟨by decide, by decide, by decide⟩, ⟨by decide, by decide, by decide⟩, by decide⟩
theorem awake_check : Fnd.check ⟨[awakeT], [], false, 9⟩ = 0 := by decide
theorem awake_run : Fnd.run ⟨[awakeT], [], false, 9⟩ [wholeL 1, wholeL 2, wholeL 3] = [1, 2] := by decide
theorem rowTm_one (w : World) (t : Fnd.Trm) {T : TypeId} : RowTm (w.alloc (.cells t.cs.toArray T)) (some ⟨w.heap.size, 0, none⟩) [t] := fun _ => by
  refine ⟨w.heap.size, 0, rfl, by simp, by simp, fun j u hu => ?_⟩
  have := madeTrm17 w t (T := T) j u (by simpa [tms] using hu)
  rwa [add_flat'] at this
theorem rowPp_made (w : World) (L : List Ppr) {T : TypeId} (h : ∀ p ∈ L, p.In w) : RowPp (w.alloc (.cells (pprs L).toArray T)) (some ⟨w.heap.size, 0, none⟩) L := by
  refine ⟨fun _ => ⟨w.heap.size, 0, rfl, by simp, by simp, fun j u hu => ?_⟩, fun p hp => (h p hp).below (up1 _)⟩
  rw [Nat.zero_add, (Has.made w T (pprs L).toArray).cell j, ← hu]
  exact List.getElem?_toArray ..
set_option maxHeartbeats 4000000 in
set_option maxRecDepth 100000 in
theorem fawake_any (w : World) :
    Calls Try.prog 14 #[] w fun r w' => r = .returned (.bool true) ∧ Below w.heap.size w w' := by
  have HW := Lib.hid (fun n hn W => lwhole_any n hn W)
  go_enter Try.func14, Try.ntmps14
  go_wp2_with fail
  have hT0 : RowTm (w.alloc (.cells (tcs amountT 2 false 2 0 [] 0 false 0 0 [] true false false) 37)) (some ⟨w.heap.size, 0, none⟩) [awakeT] := rowTm_one w awakeT
  have hB0 := up1 (w := w) (.cells (tcs amountT 2 false 2 0 [] 0 false 0 0 [] true false false) 37)
  change Calls _ _ _ (w.alloc (.cells (tcs amountT 2 false 2 0 [] 0 false 0 0 [] true false false) 37)) _
  generalize w.alloc (.cells (tcs amountT 2 false 2 0 [] 0 false 0 0 [] true false false) 37) = W0 at hT0 hB0 ⊢
  generalize (some ⟨w.heap.size, 0, none⟩ : Option Addr) = A0 at hT0 ⊢
  have HT0 := Lib.hid hT0
  have HB0 := Lib.hid hB0
  clear hT0 hB0
  refine (HW.out 1 (by decide) _).mono ?_
  rintro r W1 ⟨g1, rfl, hp1, hb1⟩
  have HB1 := Lib.hid (HB0.out.trans (hb1.mono HB0.out.size))
  have HT1 := Lib.hid (HT0.out.below hb1)
  have HP1 := Lib.hid hp1
  clear hb1 hp1 HT0 HB0
  go_wp2_with fail
  refine (HW.out 2 (by decide) _).mono ?_
  rintro r W2 ⟨g2, rfl, hp2, hb2⟩
  have HB2 := Lib.hid (HB1.out.trans (hb2.mono HB1.out.size))
  have HT2 := Lib.hid (HT1.out.below hb2)
  have HP2 := Lib.hid (And.intro (HP1.out.below hb2) hp2)
  clear hb2 hp2 HT1 HB1 HP1
  go_wp2_with fail
  refine (HW.out 3 (by decide) _).mono ?_
  rintro r W3 ⟨g3, rfl, hp3, hb3⟩
  have HB3 := Lib.hid (HB2.out.trans (hb3.mono HB2.out.size))
  have HT3 := Lib.hid (HT2.out.below hb3)
  have hps : RowPp (W3.alloc (.cells #[.string (S [112]), .int .i64 0, .slice (some ⟨g1, 0, none⟩) 1 1, .string (S [112]), .int .i64 0, .slice (some ⟨g2, 0, none⟩) 1 1, .string (S [112]), .int .i64 0, .slice (some ⟨g3, 0, none⟩) 1 1] 27)) (some ⟨W3.heap.size, 0, none⟩) [⟨[112], 0, some ⟨g1, 0, none⟩, wholeL 1, 1, g1⟩, ⟨[112], 0, some ⟨g2, 0, none⟩, wholeL 2, 1, g2⟩, ⟨[112], 0, some ⟨g3, 0, none⟩, wholeL 3, 1, g3⟩] :=
    rowPp_made W3 [⟨[112], 0, some ⟨g1, 0, none⟩, wholeL 1, 1, g1⟩, ⟨[112], 0, some ⟨g2, 0, none⟩, wholeL 2, 1, g2⟩, ⟨[112], 0, some ⟨g3, 0, none⟩, wholeL 3, 1, g3⟩] (by
      intro p hp
      rcases List.mem_cons.1 hp with rfl | hp
      · exact HP2.out.1.below hb3
      rcases List.mem_cons.1 hp with rfl | hp
      · exact HP2.out.2.below hb3
      rcases List.mem_cons.1 hp with rfl | hp
      · exact hp3
      · cases hp)
  have hB4 := HB3.out.trans ((up1 (w := W3) (.cells #[.string (S [112]), .int .i64 0, .slice (some ⟨g1, 0, none⟩) 1 1, .string (S [112]), .int .i64 0, .slice (some ⟨g2, 0, none⟩) 1 1, .string (S [112]), .int .i64 0, .slice (some ⟨g3, 0, none⟩) 1 1] 27)).mono HB3.out.size)
  have hT4 := HT3.out.below (up1 (w := W3) (.cells #[.string (S [112]), .int .i64 0, .slice (some ⟨g1, 0, none⟩) 1 1, .string (S [112]), .int .i64 0, .slice (some ⟨g2, 0, none⟩) 1 1, .string (S [112]), .int .i64 0, .slice (some ⟨g3, 0, none⟩) 1 1] 27))
  have hR := run_any (T := [awakeT]) (cap := 1) (capB := 3) [] false 9 hT4 (by
    intro t ht
    rcases List.mem_cons.1 ht with rfl | ht
    · exact awakeT_ok
    · cases ht) (by decide) hps (by decide) (show 3 ≤ 1000000 by decide) (fun h => absurd rfl h)
  unfold RunPost at hR
  rw [awake_check] at hR
  have e : List.map Ppr.L [⟨[112], 0, some ⟨g1, 0, none⟩, wholeL 1, 1, g1⟩, ⟨[112], 0, some ⟨g2, 0, none⟩, wholeL 2, 1, g2⟩, ⟨[112], 0, some ⟨g3, 0, none⟩, wholeL 3, 1, g3⟩] = [wholeL 1, wholeL 2, wholeL 3] := rfl
  rw [e, awake_run, show ([1, 2] : List Nat).length = 2 from rfl] at hR
  have HR : Hid (_ : Prop) := Lib.hid hR
  have HB4 := Lib.hid hB4
  clear hR hB4 hT4 hps hb3 hp3 HT2 HB2 HP2 e HT3 HB3 HW
  go_wp2_with fail
  refine HR.out.mono ?_
  rintro r W5 ⟨hb5, h | ⟨-, A5, cap5, rfl, hrow5, hlc5⟩⟩
  · exact absurd rfl h.1
  have HB5 := Lib.hid (HB4.out.trans (hb5.mono HB4.out.size))
  obtain ⟨b5, off5, rfl, -, -, hc5⟩ := hrow5 (by decide)
  have c0 : W5.cell? ⟨b5, off5, none⟩ = some (.int .i64 1) := hc5 0 _ rfl
  have c1 : W5.cell? ⟨b5, off5 + 1, none⟩ = some (.int .i64 2) := hc5 1 _ rfl
  clear hc5 hb5 HB4 HR
  have hl5 : (2 : Int) ≤ (cap5 : Int) := by omega
  go_wp2_with fail
  go_ret
  exact ⟨rfl, HB5.out⟩
end Go.Proofs.Ytfcmkbeilpclmaa
