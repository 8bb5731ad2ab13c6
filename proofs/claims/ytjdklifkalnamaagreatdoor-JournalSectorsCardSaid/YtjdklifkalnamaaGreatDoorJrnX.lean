/-
  A journal upon a disk without a loss armed: opened by the statement's law, appended to; the ways in which none is opened.
-/
import Derived.Test.YtjdklifkalnamaaGreatDoorJrnPut
import Derived.Test.YtjdklifkalnamaaGreatDoorJrnAt
import Derived.Test.YtjdklifkalnamaaGreatDoorGrdNone
namespace Go.Proofs.YtjdklifkalnamaaGreatDoor
open Go.RowKit
set_option linter.unusedVariables false

namespace Jrn
theorem datas_len (link : Nat) (s : T) (b wn : Nat) : (datas link s b wn).length = need s.length := by unfold datas; rw [List.length_map, pays_len, stamps_len]
theorem datas_le (link : Nat) (s : T) (b wn : Nat) : ∀ x ∈ datas link s b wn, x.length ≤ 47 := by
  intro x hx
  unfold datas at hx
  obtain ⟨w, hw, rfl⟩ := List.mem_map.1 hx
  exact (pays_data w hw).1
/-- What was put is what a record has. -/
theorem agree_put {b wn at_ link : Nat} {s : T} {r : Nat → X} (h : ∀ k, (hk : at_ ≤ k ∧ k < at_ + (datas link s b wn).length) → r k = ((datas link s b wn)[k - at_]'(by omega), Grd.stamp b (wn + (k - at_)), 0)) : Agree r at_ (pays link s (stamps b wn (need s.length))) := by
  intro k w hw
  have hk : k < (pays link s (stamps b wn (need s.length))).length := (List.getElem?_eq_some_iff.1 hw).1
  have hk2 : k < need s.length := by rw [pays_len, stamps_len] at hk; exact hk
  have hl := datas_len link s b wn
  rw [h (at_ + k) ⟨by omega, by omega⟩]
  have e1 : at_ + k - at_ = k := by omega
  have ew : w = (pays link s (stamps b wn (need s.length)))[k]'hk := by rw [List.getElem?_eq_getElem hk] at hw; injection hw with hw; exact hw.symm
  have e2 : w.2 = Grd.stamp b (wn + k) := by
    have e := congrArg (fun l => l[k]?) (pays_stamps (stamps b wn (need s.length)) link s)
    simp only [List.getElem?_map, hw, Option.map_some] at e
    unfold stamps at e
    rw [List.getElem?_map, List.getElem?_range hk2] at e
    injection e
  simp only [e1]
  rw [← e2]
  have e3 : (datas link s b wn)[k]'(by omega) = w.1 := by
    unfold datas
    rw [List.getElem_map, ew]
  rw [e3]
end Jrn
/-- Behind w0 a journal was opened, upon a disk that was made there. -/
structure JX (w0 W : World) (K : JK) (vs vr : Value) (N : List Jrn.Rec) (wn : Nat) (d : Dsk.St) : Prop where
  jn : JnAt W K vs vr N 0 0 false wn d
  bel : Below w0.heap.size w0 W
  lo : ∀ k ∈ K.all vs vr, w0.heap.size ≤ k
theorem JX.below {w0 W W' : World} {K : JK} {vs vr : Value} {N : List Jrn.Rec} {wn : Nat} {d : Dsk.St} (h : JX w0 W K vs vr N wn d) (hb : Below W.heap.size W W') : JX w0 W' K vs vr N wn d := ⟨h.jn.below hb, h.bel.trans (hb.mono h.bel.size), h.lo⟩
/-- A record came behind. -/
def JXPost (w0 w : World) (K : JK) (vs vr : Value) (N : List Jrn.Rec) (wn : Nat) (d : Dsk.St) (s : List UInt8) (e : Ending) (w' : World) : Prop :=
  e = .returned (.int .i64 0) ∧ ∃ (vs' vr' : Value) (d' : Dsk.St), JX w0 w' K vs' vr' (N ++ [(s, Jrn.stamps K.boot wn (Jrn.need s.length))]) (wn + Jrn.need s.length) d' ∧ Mv w w' (K.all vs vr) ∧ d'.up = true ∧ d'.arm = none ∧ d'.secs.length = d.secs.length ∧ d'.acts = d.acts + Jrn.need s.length ∧ d'.falls = d.falls ∧
    Jrn.Agree (Jrn.rx d') (K.base + Jrn.usedL N) (Jrn.pays (Jrn.lastL K.seed N) s (Jrn.stamps K.boot wn (Jrn.need s.length))) ∧ (∀ k, (k < K.base + Jrn.usedL N ∨ K.base + Jrn.usedL N + Jrn.need s.length ≤ k) → Jrn.rx d' k = Jrn.rx d k) ∧
    (∀ k, K.base + Jrn.usedL N ≤ k → k < K.base + Jrn.usedL N + Jrn.need s.length → k ∈ Dsk.waits d'.secs)
theorem jx_append {w0 w : World} {K : JK} {vs vr : Value} {N : List Jrn.Rec} {wn : Nat} {d : Dsk.St} (h : JX w0 w K vs vr N wn d) (hu : d.up = true) (ha : d.arm = none) (hl : K.base + K.size ≤ d.secs.length) (s : List UInt8) (hs : s.length ≤ 6000) (hroom : Jrn.usedL N + Jrn.need s.length ≤ K.size) (hwn : wn + Jrn.need s.length ≤ 4294967295) (hac : d.acts < 999999999000) (hfa : d.falls < 999999999000) :
    Calls Tryz.prog 16 #[.pointer (some ⟨K.gj, 0, none⟩), .string (S s)] w (JXPost w0 w K vs vr N wn d s) := by
  have hA := jnappend_any h.jn s hs hroom hwn hac hfa
  have hdl := Jrn.datas_len (Jrn.lastL K.seed N) s K.boot wn
  obtain ⟨d', e, h1, h2, h3, h4, h5, h6, h7⟩ := Jrn.putAll_ok h.jn.gd.lo h.jn.gd.hi (Jrn.datas (Jrn.lastL K.seed N) s K.boot wn) (K.base + Jrn.usedL N) wn d hu ha (by omega) (Jrn.datas_le _ _ _ _) (by omega)
  rw [e] at hA
  refine hA.mono fun ee w' hq => ?_
  obtain ⟨he, hm, hq⟩ := hq
  rcases hq with ⟨q, _⟩ | ⟨_, vs', vr', q1, q2, q3⟩
  · exact absurd rfl q
  · refine ⟨he, vs', vr', d', ⟨?_, hm.below h.bel h.bel.size h.lo, ?_⟩, hm, h1, h2, h3, by rw [h4, hdl], h5, ?_, ?_, ?_⟩
    · rw [hdl] at q1
      exact q1
    · intro k hk
      unfold JK.all at hk
      rcases List.mem_append.1 hk with hk | hk
      · exact h.lo k (List.mem_append_left _ hk)
      · rcases List.mem_append.1 hk with hk | hk
        · have hk' : vs'.ownBlock = some k := by simpa using hk
          rcases q2 with q | q
          · rw [q] at hk'
            exact h.lo k (List.mem_append_right _ (List.mem_append_left _ (by simp [hk'])))
          · exact Nat.le_trans h.bel.size (q k hk')
        · have hk' : vr'.ownBlock = some k := by simpa using hk
          rcases q3 with q | q
          · rw [q] at hk'
            exact h.lo k (List.mem_append_right _ (List.mem_append_right _ (by simp [hk'])))
          · exact Nat.le_trans h.bel.size (q k hk')
    · refine Jrn.agree_put fun k hk => ?_
      rw [h6 k, dif_pos hk]
    · intro k hk
      rw [h6 k, dif_neg (by omega)]
    · intro k hk1 hk2
      exact h7 k (Or.inl (by omega))
/-- No guard: no journal. -/
theorem jnopen_nil (w : World) (b s e : Int) : Calls Tryz.prog 22 #[.pointer none, .int .i64 b, .int .i64 s, .int .i64 e] w fun r w' => r = .returned (.tuple #[.pointer none, .int .i64 1]) ∧ w' = w := by
  have HD : Hid (∀ W, Calls Tryz.prog 44 #[.pointer none] W fun r w' => r = .returned (.pointer none) ∧ W = w') := Lib.hid (fun W => ng_disk (Or.inl rfl))
  go_enter Tryz.func22, Tryz.ntmps22
  go_wp2_with fail
  refine (HD.out _).mono ?_
  rintro r w1 ⟨rfl, rfl⟩
  go_wp2_with fail
  go_ret2
  exact ⟨rfl, rfl⟩
set_option maxHeartbeats 2000000 in
theorem jnopen_arg {w : World} {gg g bd mb boot wn : Nat} {d : Dsk.St} (hg : GuardAt w gg g bd mb boot wn d) (b s e : Int) (h : b < 0 ∨ s < 1 ∨ e < 1 ∨ 4294967295 < e) : Calls Tryz.prog 22 #[.pointer (some ⟨gg, 0, none⟩), .int .i64 b, .int .i64 s, .int .i64 e] w fun r w' => r = .returned (.tuple #[.pointer none, .int .i64 1]) ∧ w' = w := by
  have HD := Lib.hid (gdisk_any hg)
  clear hg
  by_cases h1 : b < 0
  · clear h
    go_enter Tryz.func22, Tryz.ntmps22
    go_wp2_with fail
    refine HD.out.mono ?_
    rintro r w1 ⟨rfl, rfl⟩
    go_wp2_with fail
    go_ret2
    exact ⟨rfl, rfl⟩
  · by_cases h2 : s < 1
    · clear h
      go_enter Tryz.func22, Tryz.ntmps22
      go_wp2_with fail
      refine HD.out.mono ?_
      rintro r w1 ⟨rfl, rfl⟩
      go_wp2_with fail
      go_ret2
      exact ⟨rfl, rfl⟩
    · by_cases h3 : e < 1
      · clear h
        go_enter Tryz.func22, Tryz.ntmps22
        go_wp2_with fail
        refine HD.out.mono ?_
        rintro r w1 ⟨rfl, rfl⟩
        go_wp2_with fail
        go_ret2
        exact ⟨rfl, rfl⟩
      · have h4 : 4294967295 < e := by omega
        clear h
        go_enter Tryz.func22, Tryz.ntmps22
        go_wp2_with fail
        refine HD.out.mono ?_
        rintro r w1 ⟨rfl, rfl⟩
        go_wp2_with fail
        go_ret2
        exact ⟨rfl, rfl⟩
theorem jnopen_range {w : World} {gg g bd mb boot wn : Nat} {d : Dsk.St} (hg : GuardAt w gg g bd mb boot wn d) (b s e : Int) (h1 : ¬ b < 0) (h2 : ¬ s < 1) (h3 : ¬ e < 1) (h4 : ¬ 4294967295 < e) (hs : s ≤ 9223372036854775807) (h5 : (d.secs.length : Int) - s < b) : Calls Tryz.prog 22 #[.pointer (some ⟨gg, 0, none⟩), .int .i64 b, .int .i64 s, .int .i64 e] w fun r w' => r = .returned (.tuple #[.pointer none, .int .i64 5]) ∧ w' = w := by
  have HD := Lib.hid (gdisk_any hg)
  have HSZ := Lib.hid (size_any hg.disk)
  have hmost := hg.disk.most
  have hn : (d.secs.length : Int) ≤ 8192 := by omega
  have hn0 : (0 : Int) ≤ (d.secs.length : Int) := by omega
  have hwr1 : IntKind.i64.wrap ((d.secs.length : Int) - s) = (d.secs.length : Int) - s := by rw [IntKind.wrap_i64]; omega
  clear hg hmost
  generalize d.secs.length = n at *
  go_enter Tryz.func22, Tryz.ntmps22
  go_wp2_with fail
  refine HD.out.mono ?_
  rintro r w1 ⟨rfl, rfl⟩
  go_wp2_with fail
  refine HSZ.out.mono ?_
  rintro r w1 ⟨rfl, rfl⟩
  go_wp2_with fail
  go_ret2
  exact ⟨rfl, rfl⟩
/-- The law's opening, of a new disk. -/
theorem lopen_fresh {w0 w : World} {g bd mb n : Nat} (h : DiskAt w g bd mb (Dsk.fresh n)) (hn : 63 ≤ n) (hb0 : Below w0.heap.size w0 w) (hlo : ∀ k ∈ [g, bd, mb], w0.heap.size ≤ k) :
    Calls Tryz.prog 8 #[.pointer (some ⟨g, 0, none⟩), .int .i64 1] w fun e w' => ∃ gj gg vs vr, e = .returned (.pointer (some ⟨gj, 0, none⟩)) ∧ JX w0 w' ⟨gj, gg, g, bd, mb, 3, 60, 7, 1⟩ vs vr [] 0 (Dsk.fresh n) ∧ Below w.heap.size w w' ∧ w.heap.size ≤ gj ∧ w.heap.size ≤ gg ∧ (∀ k, vs.ownBlock = some k → w.heap.size ≤ k) ∧ (∀ k, vr.ownBlock = some k → w.heap.size ≤ k) := by
  have HG := Lib.hid (gnew_any h 1 (by decide) (by decide))
  have HO : Hid (∀ W gg, GuardAt W gg g bd mb 1 0 (Dsk.fresh n) → Calls Tryz.prog 22 #[.pointer (some ⟨gg, 0, none⟩), .int .i64 3, .int .i64 60, .int .i64 7] W (OpenPost W gg g bd mb 3 60 7 1 0 [] 0 0 (Dsk.fresh n))) := Lib.hid (fun W gg hg => by
    refine jnopen_any (base := 3) (size := 60) (seed := 7) hg rfl (by decide) (by decide) (by decide) (by show 63 ≤ (List.replicate n _).length; rw [List.length_replicate]; exact hn) (fun q hq => by cases hq) (fun k w hw => by simp [Jrn.secs] at hw) (by decide) (Jrn.nextP_nil (Jrn.rx_fresh n _)) (Or.inr ⟨rfl, rfl, Or.inl rfl⟩))
  have HU := Lib.hid (And.intro hb0 hlo)
  unfold NewGPost at HG
  unfold OpenPost at HO
  clear h hb0 hlo
  go_enter Tryz.func8, Tryz.ntmps8
  go_wp2_with fail
  refine HG.out.mono ?_
  rintro r w1 ⟨gg, rfl, hg, hb1, hgg⟩
  have HO2 := Lib.hid (HO.out w1 gg hg)
  have HB1 := Lib.hid hb1
  clear hg hb1 HO HG
  go_wp2_with fail
  refine HO2.out.mono ?_
  rintro r w2 ⟨gj, vs, vr, rfl, hj, hb2', hgj, hvs, hvr⟩
  have HJ := Lib.hid (And.intro hj (And.intro (HB1.out.trans (hb2'.mono HB1.out.size)) (And.intro hvs hvr)))
  have hs1 := HB1.out.size
  clear hj hb2' hvs hvr HO2
  go_wp2_with fail
  go_ret
  obtain ⟨hj, hbel, hvs, hvr⟩ := HJ.out
  obtain ⟨hb0, hlo⟩ := HU.out
  have hsz0 := hb0.size
  refine ⟨gj, gg, vs, vr, rfl, ⟨hj, hb0.trans (hbel.mono hb0.size), fun k hk => ?_⟩, hbel, by omega, hgg, fun k hk => Nat.le_trans hs1 (hvs k hk), fun k hk => Nat.le_trans hs1 (hvr k hk)⟩
  unfold JK.all at hk
  rcases List.mem_append.1 hk with hk | hk
  · have hk' : k ∈ [gj, gg, g, bd, mb] := hk
    simp only [List.mem_cons, List.not_mem_nil, or_false] at hk' hlo
    rcases hk' with rfl | rfl | rfl | rfl | rfl
    all_goals first | exact hlo _ (by simp) | omega
  · rcases List.mem_append.1 hk with hk | hk
    · have := hvs k (by simpa using hk); omega
    · have := hvr k (by simpa using hk); omega
/-- The law's opening, of a new disk that is too small. -/
theorem lopen_small {w : World} {g bd mb n : Nat} (h : DiskAt w g bd mb (Dsk.fresh n)) (hn : n < 63) :
    Calls Tryz.prog 8 #[.pointer (some ⟨g, 0, none⟩), .int .i64 1] w fun e w' => e = .returned (.pointer none) ∧ Below w.heap.size w w' := by
  have HG := Lib.hid (gnew_any h 1 (by decide) (by decide))
  have HO : Hid (∀ W gg, GuardAt W gg g bd mb 1 0 (Dsk.fresh n) → Calls Tryz.prog 22 #[.pointer (some ⟨gg, 0, none⟩), .int .i64 3, .int .i64 60, .int .i64 7] W fun r w' => r = .returned (.tuple #[.pointer none, .int .i64 5]) ∧ w' = W) := Lib.hid (fun W gg hg => by
    refine jnopen_range hg 3 60 7 (by decide) (by decide) (by decide) (by decide) (by decide) ?_
    have : (Dsk.fresh n).secs.length = n := List.length_replicate
    rw [this]
    omega)
  unfold NewGPost at HG
  clear h
  go_enter Tryz.func8, Tryz.ntmps8
  go_wp2_with fail
  refine HG.out.mono ?_
  rintro r w1 ⟨gg, rfl, hg, hb1, hgg⟩
  have HO2 := Lib.hid (HO.out w1 gg hg)
  have HB1 := Lib.hid hb1
  clear hg hb1 HO HG
  go_wp2_with fail
  refine HO2.out.mono ?_
  rintro r w2 ⟨rfl, rfl⟩
  go_wp2_with fail
  go_ret
  exact ⟨rfl, HB1.out⟩
end Go.Proofs.YtjdklifkalnamaaGreatDoor
