/-
  The journal's Sure, Append, Flush.
-/
import Derived.Test.YtjdklifkalnamaaGreatDoorJrnF
import Derived.Test.YtjdklifkalnamaaGreatDoorJrnG
namespace Go.Proofs.YtjdklifkalnamaaGreatDoor
open Go.RowKit
set_option linter.unusedVariables false

/-- Nothing more has become durable. -/
def Still (L : List Jrn.Rec) (sure firm base : Nat) (d : Dsk.St) : Prop := sure = L.length ∨ ∃ hs : sure < L.length, firm + Jrn.need (L[sure]'hs).1.length ≤ Jrn.usedL L ∧ Jrn.durB (Jrn.rx d) (Dsk.waits d.secs) base (Jrn.sts L) firm (firm + Jrn.need (L[sure]'hs).1.length) = false
section
variable {w : World} {K : JK} {vs vr : Value} {L : List Jrn.Rec} {sure firm : Nat} {dead : Bool} {wn : Nat} {d : Dsk.St}
theorem jnsure_any (h : JnAt w K vs vr L sure firm dead wn d) (hsl : sure ≤ L.length) (hfl : firm ≤ 8192) (hst : Still L sure firm K.base d) :
    Calls Tryz.prog 26 #[.pointer (some ⟨K.gj, 0, none⟩)] w fun e w' => e = .returned (.int .i64 (sure : Int)) ∧ Below w.heap.size w w' := by
  have HW := Lib.hid (jworks_any h)
  have HS := Lib.hid (jsettle_still h hsl hfl hst)
  have HC : Hid (∀ W, Below w.heap.size w W → W.cell? ⟨K.gj, 6, none⟩ = some (.int .i64 (sure : Int))) := Lib.hid (fun W hb => (h.below hb).cs.2.2.2.2.2.2.1)
  clear h hst
  go_enter Tryz.func26, Tryz.ntmps26
  go_wp2_with fail
  refine HW.out.mono ?_
  rintro r w1 ⟨rfl, rfl⟩
  go_wp2_with fail
  refine HS.out.mono ?_
  rintro r w2 ⟨rfl, hb⟩
  have c6 := HC.out w2 hb
  go_wp2_with fail
  go_ret
  exact ⟨rfl, hb⟩
theorem jnappend_long (h : JnAt w K vs vr L sure firm dead wn d) (s : List UInt8) (hs : 6000 < s.length) :
    Calls Tryz.prog 16 #[.pointer (some ⟨K.gj, 0, none⟩), .string (S s)] w fun e w' => e = .returned (.int .i64 3) ∧ Below w.heap.size w w' := by
  have HW := Lib.hid (jworks_any h)
  have k1 : (6000 : Int) < (s.length : Int) := by omega
  clear h hs
  go_enter Tryz.func16, Tryz.ntmps16
  go_wp2_with fail
  refine HW.out.mono ?_
  rintro r w1 ⟨rfl, rfl⟩
  go_wp2_with fail
  go_ret
  exact ⟨rfl, Below.refl _ _⟩
theorem jnappend_full (h : JnAt w K vs vr L sure firm dead wn d) (s : List UInt8) (hs : s.length ≤ 6000) (hf : K.size < Jrn.usedL L + Jrn.need s.length) :
    Calls Tryz.prog 16 #[.pointer (some ⟨K.gj, 0, none⟩), .string (S s)] w fun e w' => e = .returned (.int .i64 6) ∧ Below w.heap.size w w' := by
  have HW := Lib.hid (jworks_any h)
  have HL := Lib.hid (jnleft_any h)
  have HN := Lib.hid (fun W => jnneed_any s.length (by omega) W)
  have k1 : ¬ (6000 : Int) < (s.length : Int) := by omega
  have k2 : (K.size : Int) - (Jrn.usedL L : Int) < (Jrn.need s.length : Int) := by omega
  clear h hs hf
  generalize Jrn.need s.length = nd at *
  generalize Jrn.usedL L = u at *
  go_enter Tryz.func16, Tryz.ntmps16
  go_wp2_with fail
  refine HW.out.mono ?_
  rintro r w1 ⟨rfl, rfl⟩
  go_wp2_with fail
  refine (HN.out _).mono ?_
  rintro r w2 ⟨rfl, rfl⟩
  go_wp2_with fail
  refine HL.out.mono ?_
  rintro r w3 ⟨rfl, hb⟩
  go_wp2_with fail
  go_ret
  exact ⟨rfl, hb⟩
/-- A record was appended; or the journal is dead. -/
def AppPost (w : World) (K : JK) (vs vr : Value) (L : List Jrn.Rec) (sure firm wn : Nat) (s : List UInt8) (R : Int × Nat × Dsk.St) (e : Ending) (w' : World) : Prop :=
  e = .returned (.int .i64 R.1) ∧ Mv w w' (K.all vs vr) ∧
  ((R.1 ≠ 0 ∧ JnAt w' K vs vr L sure firm true R.2.1 R.2.2) ∨
   (R.1 = 0 ∧ ∃ vs' vr', JnAt w' K vs' vr' (L ++ [(s, Jrn.stamps K.boot wn (Jrn.need s.length))]) sure firm false R.2.1 R.2.2 ∧ (vs'.ownBlock = vs.ownBlock ∨ ∀ k, vs'.ownBlock = some k → w.heap.size ≤ k) ∧ (vr'.ownBlock = vr.ownBlock ∨ ∀ k, vr'.ownBlock = some k → w.heap.size ≤ k)))
set_option maxHeartbeats 2000000 in
theorem jnappend_any (h : JnAt w K vs vr L sure firm false wn d) (s : List UInt8) (hs : s.length ≤ 6000) (hroom : Jrn.usedL L + Jrn.need s.length ≤ K.size) (hwr : wn + Jrn.need s.length ≤ 4294967295) (ha : d.acts < 999999999000) (hf : d.falls < 999999999000) :
    Calls Tryz.prog 16 #[.pointer (some ⟨K.gj, 0, none⟩), .string (S s)] w (AppPost w K vs vr L sure firm wn s (Jrn.putAll K.boot (Jrn.datas (Jrn.lastL K.seed L) s K.boot wn) ((K.base + Jrn.usedL L : Nat) : Int) wn d)) := by
  have HW := Lib.hid (jworks_any h)
  have HL := Lib.hid (jnleft_any h)
  have HN := Lib.hid (fun W => jnneed_any s.length (by omega) W)
  have HWR : Hid (∀ W, Below w.heap.size w W → Calls Tryz.prog 38 #[.pointer (some ⟨K.gj, 0, none⟩), .string (S s)] W (WritePost W K vs vr L sure firm false wn (Jrn.need s.length) (Jrn.putAll K.boot (Jrn.datas (Jrn.lastL K.seed L) s K.boot wn) ((K.base + Jrn.usedL L : Nat) : Int) wn d))) := Lib.hid (fun W hb => jwrite_any (h.below hb) s hs hroom hwr ha hf)
  generalize hR : Jrn.putAll K.boot (Jrn.datas (Jrn.lastL K.seed L) s K.boot wn) ((K.base + Jrn.usedL L : Nat) : Int) wn d = R at *
  clear hR
  have hboot := h.gd.hi
  have HAD : Hid (∀ W wn2 d2 vt, JnAt W K vs vr L sure firm false wn2 d2 → IOwn w.heap.size W vt (Jrn.stamps K.boot wn (Jrn.need s.length)) → Calls Tryz.prog 39 #[.pointer (some ⟨K.gj, 0, none⟩), .string (S s), vt] W (AddPost W K vs vr (L ++ [(s, Jrn.stamps K.boot wn (Jrn.need s.length))]) sure firm false wn2 d2)) := Lib.hid (fun W wn2 d2 vt hq hv => by
    refine jnadd_any hq (s := s) (ts := Jrn.stamps K.boot wn (Jrn.need s.length)) ⟨hs, Jrn.stamps_len ..⟩ hroom (fun t ht => ?_) hv.row (fun k hk hn => ?_)
    · have := Jrn.stamps_mem ht
      omega
    · have h1 := hv.lo k hk
      have h2 := h.lts k hn
      omega)
  have HC : Hid (∀ W, Below w.heap.size w W → W.cell? ⟨K.gj, 8, none⟩ = some (.bool false)) := Lib.hid (fun W hb => (h.below hb).cs.2.2.2.2.2.2.2.2)
  have k1 : ¬ (6000 : Int) < (s.length : Int) := by omega
  have k2 : ¬ (K.size : Int) - (Jrn.usedL L : Int) < (Jrn.need s.length : Int) := by omega
  have H0 := Lib.hid h
  have hall : ∀ x ∈ [K.gg, K.g, K.bd, K.mb], x ∈ K.all vs vr := fun x hx => List.mem_append_left _ (List.mem_cons_of_mem _ hx)
  have HALL := Lib.hid hall
  clear h hs hroom hwr ha hf hboot hall
  generalize hnd : Jrn.need s.length = nd at *
  have HND := Lib.hid hnd
  clear hnd
  generalize Jrn.usedL L = u at *
  go_enter Tryz.func16, Tryz.ntmps16
  go_wp2_with fail
  refine HW.out.mono ?_
  rintro r w1 ⟨rfl, rfl⟩
  go_wp2_with fail
  refine (HN.out _).mono ?_
  rintro r w2 ⟨rfl, rfl⟩
  go_wp2_with fail
  refine HL.out.mono ?_
  rintro r w3 ⟨rfl, hb⟩
  have c8 := HC.out w3 hb
  have HB := Lib.hid hb
  clear hb
  go_wp2_with fail
  refine (HWR.out _ HB.out).mono ?_
  rintro r w4 ⟨hj4, hm4, hr4⟩
  rcases hr4 with ⟨hne, rfl⟩ | ⟨h0, v, rfl, hv⟩
  · have HF := Lib.hid (And.intro hj4 ((Mv.of_below HB.out _).trans (hm4.wide HALL.out)))
    clear hj4 hm4
    obtain ⟨-, -, -, -, -, -, -, -, c8⟩ := HF.out.1.cs
    have f8 := HF.out.1.has.free 8
    have h0b : (R.1 == 0) = false := by rw [beq_eq_false_iff_ne]; exact hne
    have HS := Lib.hid (HF.out.1.set 8 (.bool true) sure firm true rfl)
    go_wp2_with fail
    go_ret
    unfold AppPost
    refine ⟨rfl, HF.out.2.trans (Mv.of_only (Only.set w4 K.gj 8 (.bool true)) (by unfold JK.all; simp)), Or.inl ⟨hne, HS.out⟩⟩
  · have HV := Lib.hid (And.intro hj4 (And.intro (hv.mono HB.out.size) ((Mv.of_below HB.out _).trans (hm4.wide HALL.out))))
    have HH0 := Lib.hid h0
    clear hj4 hm4 hv
    clear h0
    go_wp2_with fail
    refine (HAD.out _ _ _ _ HV.out.1 HV.out.2.1).mono ?_
    rintro r w5 ⟨rfl, vs', vr', hj5, hm5, hb1, hb2⟩
    have HF := Lib.hid (And.intro hj5 (And.intro hm5 (And.intro hb1 hb2)))
    clear hj5 hm5 hb1 hb2
    go_wp2_with fail
    go_ret
    unfold AppPost
    rw [HH0.out, HND.out]
    have hsz := HV.out.2.2.size
    refine ⟨rfl, HV.out.2.2.trans (HF.out.2.1.wide (K.own_all vs vr)), Or.inr ⟨rfl, vs', vr', HF.out.1, ?_, ?_⟩⟩
    · rcases HF.out.2.2.1 with q | q
      · exact Or.inl q
      · exact Or.inr fun k hk => Nat.le_trans hsz (q k hk)
    · rcases HF.out.2.2.2 with q | q
      · exact Or.inl q
      · exact Or.inr fun k hk => Nat.le_trans hsz (q k hk)
/-- All was flushed; or the journal is dead. -/
def FlPost (w : World) (K : JK) (vs vr : Value) (L : List Jrn.Rec) (sure firm wn : Nat) (c : Int) (d' : Dsk.St) (e : Ending) (w' : World) : Prop :=
  e = .returned (.int .i64 c) ∧ Mv w w' (K.all vs vr) ∧ ((c ≠ 0 ∧ JnAt w' K vs vr L sure firm true wn d') ∨ (c = 0 ∧ JnAt w' K vs vr L L.length (Jrn.usedL L) false wn d'))
theorem jnflush_none (h : JnAt w K vs vr L L.length firm false wn d) (hfl : firm ≤ 8192) :
    Calls Tryz.prog 10 #[.pointer (some ⟨K.gj, 0, none⟩)] w fun e w' => e = .returned (.int .i64 0) ∧ Below w.heap.size w w' := by
  have HW := Lib.hid (jworks_any h)
  have HS : Hid (∀ W, Grew w W → Calls Tryz.prog 26 #[.pointer (some ⟨K.gj, 0, none⟩)] W fun e w' => e = .returned (.int .i64 (L.length : Int)) ∧ Below W.heap.size W w') := Lib.hid (fun W hW => jnsure_any (h.below hW.bel) (Nat.le_refl _) hfl (Or.inl rfl))
  obtain ⟨A, cap, hvr, hlc, hcm, -⟩ := h.rc.any
  rw [List.length_map] at hvr
  subst hvr
  have HC : Hid (∀ W, Grew w W → W.cell? ⟨K.gj, 5, none⟩ = some (.slice A L.length cap)) := Lib.hid (fun W hW => (h.below hW.bel).cs.2.2.2.2.2.1)
  have c8 := h.cs.2.2.2.2.2.2.2.2
  clear h hlc
  generalize L.length = n at *
  have hnn : ((n : Int) == (n : Int)) = true := by rw [beq_self_eq_true]
  go_enter Tryz.func10, Tryz.ntmps10
  go_wp2_with fail
  refine HW.out.mono ?_
  rintro r w1 ⟨rfl, rfl⟩
  go_upto_region 5 with fail
  refine wp_region_grew (w0 := w1) (by kernel_rfl) (by kernel_rfl) (Below.refl _ _) ?_
  refine wpQuiet_step (fun K hK => ?_)
  go_simp
  apply Exists.intro
  refine ⟨fun W hW => ?_, hK _ ?_⟩
  · have c5 := HC.out W hW
    go_simp
    first | done | rfl
  clear hK K
  refine wpQuiet_step (fun K hK => ?_)
  go_simp
  apply Exists.intro
  refine ⟨fun W hW => ?_, hK _ ?_⟩
  · exact Calls.grew_of hW (HS.out W hW)
  clear hK K
  refine wpQuiet_step (fun K hK => ?_)
  go_simp
  apply Exists.intro
  refine ⟨fun W hW => ?_, hK _ ?_⟩
  · have c5 := HC.out W hW
    go_simp
    first | done | rfl
  clear hK K
  refine wpQuiet_step (fun K hK => ?_)
  go_simp
  apply Exists.intro
  refine ⟨fun W hW => ?_, hK _ ?_⟩
  · have c5 := HC.out W hW
    go_simp
    first | done | rfl
  clear hK K
  refine wpQuiet_step (fun K hK => ?_)
  go_simp
  apply Exists.intro
  refine ⟨fun W hW => ?_, hK _ ?_⟩
  · have c5 := HC.out W hW
    go_simp
    first | done | rfl
  clear hK K
  refine wpQuiet_step (fun K hK => ?_)
  go_simp
  apply Exists.intro
  refine ⟨fun W hW => ?_, hK _ ?_⟩
  · have c5 := HC.out W hW
    go_simp
    first | done | rfl
  clear hK K
  refine wpQuiet_step (fun K hK => ?_)
  go_simp
  apply Exists.intro
  refine ⟨fun W hW => ?_, hK _ ?_⟩
  · have c5 := HC.out W hW
    go_simp
    first | done | rfl
  clear hK K
  refine wpQuiet_step (fun K hK => ?_)
  go_simp
  apply Exists.intro
  refine ⟨fun W hW => ?_, hK _ ?_⟩
  · have c5 := HC.out W hW
    go_simp
    first | done | rfl
  clear hK K
  refine wpQuiet_step (fun K hK => ?_)
  go_simp
  apply Exists.intro
  refine ⟨fun W hW => ?_, hK _ ?_⟩
  · have c5 := HC.out W hW
    go_simp
    first | done | rfl
  clear hK K
  refine wpQuiet_nil ?_
  intro W2 hW2
  go_wp2_with fail
  go_ret
  exact ⟨rfl, hW2.bel⟩
set_option maxHeartbeats 2000000 in
theorem jnflush_any (h : JnAt w K vs vr L sure firm false wn d) (hsl : sure < L.length) (hfl : firm = Jrn.usedL (L.take sure)) (hst : Still L sure firm K.base d) (ha : d.acts < 999999999000) (hf : d.falls < 999999999000)
    (hall : (Dsk.flush d).1 = 0 → ∀ i, i < Jrn.usedL L → Jrn.firmAt (Jrn.rx (Dsk.flush d).2) (Dsk.waits (Dsk.flush d).2.secs) K.base (Jrn.sts L) i = true) :
    Calls Tryz.prog 10 #[.pointer (some ⟨K.gj, 0, none⟩)] w (FlPost w K vs vr L sure firm wn (Dsk.flush d).1 (Dsk.flush d).2) := by
  have HW := Lib.hid (jworks_any h)
  have hf8 : firm ≤ 8192 := by
    have h1 := h.room
    have h2 := h.top
    have h3 := Jrn.usedL_append (L.take sure) (L.drop sure)
    rw [List.take_append_drop] at h3
    omega
  have HS : Hid (∀ W, Grew w W → Calls Tryz.prog 26 #[.pointer (some ⟨K.gj, 0, none⟩)] W fun e w' => e = .returned (.int .i64 (sure : Int)) ∧ Below W.heap.size W w') := Lib.hid (fun W hW => jnsure_any (h.below hW.bel) (by omega) hf8 hst)
  have HFL : Hid (∀ W, Grew w W → Calls Tryz.prog 30 #[.pointer (some ⟨K.gg, 0, none⟩)] W (GDPost W K.gg K.g K.bd K.mb K.boot wn (Dsk.flush d).1 (Dsk.flush d).2)) := Lib.hid (fun W hW => gflush_any (h.below hW.bel).gd (by omega) (by omega))
  have HSE : Hid (∀ W, (Dsk.flush d).1 = 0 → JnAt W K vs vr L sure firm false wn (Dsk.flush d).2 → Calls Tryz.prog 31 #[.pointer (some ⟨K.gj, 0, none⟩)] W fun e w' => e = .returned (.tuple #[]) ∧ JnAt w' K vs vr L L.length (Jrn.usedL L) false wn (Dsk.flush d).2 ∧ Mv W w' [K.gj]) := Lib.hid (fun W hc hq => jsettle_all hq (by omega) hfl (hall hc))
  obtain ⟨A, cap, hvr, hlc, hcm, -⟩ := h.rc.any
  rw [List.length_map] at hvr
  have HC : Hid (∀ W, Grew w W → W.cell? ⟨K.gj, 5, none⟩ = some (.slice A L.length cap) ∧ W.cell? ⟨K.gj, 0, none⟩ = some (.pointer (some ⟨K.gg, 0, none⟩))) := Lib.hid (fun W hW => ⟨by rw [← hvr]; exact (h.below hW.bel).cs.2.2.2.2.2.1, (h.below hW.bel).cs.1⟩)
  have c8 := h.cs.2.2.2.2.2.2.2.2
  have HT : Hid (∀ W W' d', Grew w W → GuardAt W' K.gg K.g K.bd K.mb K.boot wn d' → Mv W W' [K.g, K.bd, K.mb] → JnAt W' K vs vr L sure firm false wn d' ∧ Mv w W' (K.all vs vr)) := Lib.hid (fun W W' d' hW hg hm => ⟨(h.below hW.bel).turn hg (hm.wide (by simp)), (Mv.of_below hW.bel _).trans (hm.wide (by unfold JK.all; simp))⟩)
  have hne : ((sure : Int) == (L.length : Int)) = false := by rw [beq_eq_false_iff_ne]; omega
  clear h hvr hlc hall hst hfl
  generalize Dsk.flush d = x at *
  obtain ⟨cd, d2⟩ := x
  unfold GDPost at HFL
  try dsimp only at HFL HSE
  go_enter Tryz.func10, Tryz.ntmps10
  go_wp2_with fail
  refine HW.out.mono ?_
  rintro r w1 ⟨rfl, rfl⟩
  go_upto_region 5 with fail
  refine wp_region_grew (w0 := w1) (by kernel_rfl) (by kernel_rfl) (Below.refl _ _) ?_
  refine wpQuiet_step (fun K hK => ?_)
  go_simp
  apply Exists.intro
  refine ⟨fun W hW => ?_, hK _ ?_⟩
  · obtain ⟨c5, -⟩ := HC.out W hW
    go_simp
    first | done | rfl
  clear hK K
  refine wpQuiet_step (fun K hK => ?_)
  go_simp
  apply Exists.intro
  refine ⟨fun W hW => ?_, hK _ ?_⟩
  · exact Calls.grew_of hW (HS.out W hW)
  clear hK K
  refine wpQuiet_step (fun K hK => ?_)
  go_simp
  apply Exists.intro
  refine ⟨fun W hW => ?_, hK _ ?_⟩
  · obtain ⟨c5, -⟩ := HC.out W hW
    go_simp
    first | done | rfl
  clear hK K
  refine wpQuiet_step (fun K hK => ?_)
  go_simp
  apply Exists.intro
  refine ⟨fun W hW => ?_, hK _ ?_⟩
  · obtain ⟨c5, -⟩ := HC.out W hW
    go_simp
    first | done | rfl
  clear hK K
  refine wpQuiet_step (fun K hK => ?_)
  go_simp
  apply Exists.intro
  refine ⟨fun W hW => ?_, hK _ ?_⟩
  · obtain ⟨c5, -⟩ := HC.out W hW
    go_simp
    first | done | rfl
  clear hK K
  refine wpQuiet_step (fun K hK => ?_)
  go_simp
  apply Exists.intro
  refine ⟨fun W hW => ?_, hK _ ?_⟩
  · obtain ⟨c5, -⟩ := HC.out W hW
    go_simp
    first | done | rfl
  clear hK K
  refine wpQuiet_step (fun K hK => ?_)
  go_simp
  apply Exists.intro
  refine ⟨fun W hW => ?_, hK _ ?_⟩
  · obtain ⟨c5, -⟩ := HC.out W hW
    go_simp
    first | done | rfl
  clear hK K
  refine wpQuiet_step (fun K hK => ?_)
  go_simp
  apply Exists.intro
  refine ⟨fun W hW => ?_, hK _ ?_⟩
  · obtain ⟨c5, -⟩ := HC.out W hW
    go_simp
    first | done | rfl
  clear hK K
  refine wpQuiet_step (fun K hK => ?_)
  go_simp
  apply Exists.intro
  refine ⟨fun W hW => ?_, hK _ ?_⟩
  · obtain ⟨c5, -⟩ := HC.out W hW
    go_simp
    first | done | rfl
  clear hK K
  refine wpQuiet_nil ?_
  intro W2 hW2
  obtain ⟨-, c0⟩ := HC.out W2 hW2
  have HFL2 := Lib.hid (HFL.out W2 hW2)
  have HT2 := Lib.hid (fun W' d' => HT.out W2 W' d' hW2)
  clear hW2 HC HFL HS HT c8
  go_wp2_with fail
  refine HFL2.out.mono ?_
  rintro r w3 ⟨rfl, hg3, hm3⟩
  have HF := Lib.hid (HT2.out _ _ hg3 hm3)
  clear hg3 hm3 c0
  by_cases h0 : cd = 0
  · subst h0
    go_wp2_with fail
    refine (HSE.out _ (by first | trivial | rfl) HF.out.1).mono ?_
    rintro r w4 ⟨rfl, hj4, hm4⟩
    have HF2 := Lib.hid (And.intro hj4 (HF.out.2.trans (hm4.wide (by unfold JK.all; simp))))
    clear hj4 hm4
    go_wp2_with fail
    go_ret
    unfold FlPost
    exact ⟨rfl, HF2.out.2, Or.inr ⟨rfl, HF2.out.1⟩⟩
  · have h0b : (cd == 0) = false := by rw [beq_eq_false_iff_ne]; exact h0
    obtain ⟨-, -, -, -, -, -, -, -, c8⟩ := HF.out.1.cs
    have f8 := HF.out.1.has.free 8
    have HS2 := Lib.hid (HF.out.1.set 8 (.bool true) sure firm true rfl)
    go_wp2_with fail
    go_ret
    unfold FlPost
    exact ⟨rfl, HF.out.2.trans (Mv.of_only (Only.set w3 K.gj 8 (.bool true)) (by unfold JK.all; simp)), Or.inl ⟨h0, HS2.out⟩⟩
end
end Go.Proofs.YtjdklifkalnamaaGreatDoor
