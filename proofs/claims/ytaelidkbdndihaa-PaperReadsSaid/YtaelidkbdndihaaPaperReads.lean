/-
  The contract of PaperReads.
-/
import Derived.Test.YtaelidkbdndihaaPapT
import Derived.Test.YtaelidkbdndihaaPapRead
import Derived.Test.YtaelidkbdndihaaPapF
import Derived.Test.YtaelidkbdndihaaPapG
import Derived.Test.YtaelidkbdndihaaPapH
import Derived.Test.YtaelidkbdndihaaPapAwake
import Derived.Test.YtaelidkbdndihaaLaw
import Derived.Test.YtaelidkbdndihaaRows
namespace Go.Proofs.Ytaelidkbdndihaa
open Go.ChangeShapes Go.WideShapes Go.ChangeAt Go.RowKit
open Go.ChangeMaps (open_string shut_string)
set_option linter.unusedVariables false

theorem readP_fields (s : List UInt8) : ∀ x ∈ (Pap.readP s).2.2.1, x.ok ∧ x.name.length ≤ 16 := by
  have hP := Pap.readP_eq s
  have h := Pap.readFs_ok (Pap.readH s).2.2.1.toNat (Pap.readH s).2.2.2 [] (fun x hx => by cases hx)
  split at hP
  · rw [hP]; intro x hx; cases hx
  · split at hP
    · rw [hP]; intro x hx; cases hx
    · rw [hP]; exact h

set_option maxHeartbeats 4000000 in
set_option maxRecDepth 100000 in
theorem paperReads_short (l : List UInt8) (s : List UInt8) (hs : l.take 4000 = s) (w : World) (h : (4000 : Int) < (l.length : Int) ∨ (¬ (4000 : Int) < (l.length : Int) ∧ s = l)) :
    Calls Try.prog 6 #[.string (S l)] w fun e w' => e = .returned (.bool true) ∧ Below w.heap.size w w' := by
  have hl : s.length ≤ 1000000 := by rw [← hs, List.length_take]; omega
  have hR := fun W => pread_any s hl W
  have hok := Pap.readP_ok s
  have hfd := readP_fields s
  generalize Pap.readP s = x at hR hok hfd
  obtain ⟨id, cls, L, e⟩ := x
  dsimp only at hok hfd
  unfold ReadPost at hR
  dsimp only at hR
  have HR := Lib.hid hR; clear hR
  have HA := Lib.hid fun W => awake_any W
  by_cases he : e = 0
  · subst he
    obtain ⟨hck, htd, hen⟩ := hok.2 rfl
    obtain ⟨hw24, hcls, hlen, -, -⟩ := Pap.check_zero hck
    have hgd := Pap.tidy_good hck (fun x hx => (hfd x hx).1)
    rw [htd] at hgd
    have hid := (Pap.word_len hw24).2
    have hC := fun W A b cap (hF : FSl W b A L) => lcheck_any id cls L b cap A W hF (by omega) (by omega) (fun x hx => by have := (hfd x hx).2; omega) (fun x hx => (hfd x hx).1)
    rw [hck] at hC
    have hT := fun W A b cap (hF : FSl W b A L) => ltidy_any id cls L (by omega) b cap A W hF (fun x hx => (hfd x hx).1)
    unfold TidyPost at hT
    rw [show fsort (L.map Fld.clean) = L from htd] at hT
    have hS := fun W A b cap A' b' cap' (hF : FSl W b A L) (hF' : FSl W b' A' L) => lsame_any id cls L id cls L b b' cap cap' A A' W hF hF' (by omega) (by omega)
    rw [show Pap.same id cls L id cls L = true by simp [Pap.same]] at hS
    have hB := fun W A b cap (hF : FSl W b A L) => lpbytes_any id cls L (by omega) (by omega) hgd b cap A W hF
    rw [hen] at hB
    clear hok hfd hck htd hen hw24 hcls hgd hid
    have HC := Lib.hid hC; clear hC
    have HT := Lib.hid hT; clear hT
    have HS := Lib.hid hS; clear hS
    have HB := Lib.hid hB; clear hB hlen hl
    rcases h with h | ⟨h, rfl⟩
    case' inr => clear hs
    all_goals
      go_enter Try.func6, Try.ntmps6
      go_wp2_with fail
      refine (HR.out _).mono ?_
      rintro r w1 ⟨A, b, cap, rfl, hF1, hb1⟩
      go_upto_region 6 with (fail)
      have hP : Has (w1.alloc (.cells #[.string (S id), .int .i64 cls, .slice A L.length cap] 27)).drew w1.heap.size 27 #[.string (S id), .int .i64 cls, .slice A L.length cap] := Has.made w1 _ _
      have hbx : Below w.heap.size w (w1.alloc (.cells #[.string (S id), .int .i64 cls, .slice A L.length cap] 27)).drew := (hb1.trans ((up1 _).mono hb1.size)).drew
      have hF2 : FSl (w1.alloc (.cells #[.string (S id), .int .i64 cls, .slice A L.length cap] 27)).drew b A L := hF1.below ((up1 (w := w1) (.cells #[.string (S id), .int .i64 cls, .slice A L.length cap] 27)).drew) (Nat.le_refl _)
      have hx : PLies w1.heap.size id cls A L.length cap (w1.alloc (.cells #[.string (S id), .int .i64 cls, .slice A L.length cap] 27)).drew := ⟨hP.cell 0, hP.cell 1, hP.cell 2⟩
      have HW := Lib.hid (And.intro hP (And.intro hF2 hbx)); clear hP hF2 hbx hF1 hb1
      refine wp_region_held_drew (S := PLies w1.heap.size id cls A L.length cap) (by kernel_rfl) hx (fun hHeld => ?_)
      first
      | (refine take_wanted (i := 0) (v := ?_) rfl rfl (by kernel_rfl) (by kernel_rfl) (by kernel_rfl) (fun _ _ _ h => h) (by rfl) (by assumption) ?_ ?_; rotate_left; (focus (intro w hSw; (try dsimp only at hSw); go_simp; first | done | with_reducible rfl)); (simp only [Act.at, List.setIfInBounds_toArray, List.set_cons_zero, List.set_cons_succ]))
      | (refine take_unwanted (i := 0) rfl rfl (by kernel_rfl) (by kernel_rfl) (by kernel_rfl) (fun _ _ _ h => h) (by rfl) (by assumption) ?_; (simp only [Act.at, List.setIfInBounds_toArray, List.set_cons_zero, List.set_cons_succ]))
      refine take_call (i := 1) (by kernel_rfl) rfl rfl (by rfl) (fun K hK => ?_)
      go_simp
      refine (HC.out _ A b cap HW.out.2.1).mono ?_
      rintro r w2 ⟨rfl, hb2⟩
      replace HW := Lib.hid (And.intro (HW.out.1.below hb2 HW.out.1.lt) (And.intro (HW.out.2.1.below hb2 (Nat.le_refl _)) (HW.out.2.2.trans (hb2.mono HW.out.2.2.size))))
      clear hx hb2
      have hx : PLies w1.heap.size id cls A L.length cap w2 := ⟨HW.out.1.cell 0, HW.out.1.cell 1, HW.out.1.cell 2⟩
      refine hK.out _ _ hx (fun hHeld => ?_)
      clear hK K
      try simp only [Act.put, List.setIfInBounds_toArray, List.set_cons_zero, List.set_cons_succ]
      first
      | (refine take_wanted (i := 2) (v := ?_) rfl rfl (by kernel_rfl) (by kernel_rfl) (by kernel_rfl) (fun _ _ _ h => h) (by rfl) (by assumption) ?_ ?_; rotate_left; (focus (intro w hSw; (try dsimp only at hSw); go_simp; first | done | with_reducible rfl)); (simp only [Act.at, List.setIfInBounds_toArray, List.set_cons_zero, List.set_cons_succ]))
      | (refine take_unwanted (i := 2) rfl rfl (by kernel_rfl) (by kernel_rfl) (by kernel_rfl) (fun _ _ _ h => h) (by rfl) (by assumption) ?_; (simp only [Act.at, List.setIfInBounds_toArray, List.set_cons_zero, List.set_cons_succ]))
      first
      | (refine take_wanted (i := 3) (v := ?_) rfl rfl (by kernel_rfl) (by kernel_rfl) (by kernel_rfl) (fun _ _ _ h => h) (by rfl) (by assumption) ?_ ?_; rotate_left; (focus (intro w hSw; (try dsimp only at hSw); go_simp; first | done | with_reducible rfl)); (simp only [Act.at, List.setIfInBounds_toArray, List.set_cons_zero, List.set_cons_succ]))
      | (refine take_unwanted (i := 3) rfl rfl (by kernel_rfl) (by kernel_rfl) (by kernel_rfl) (fun _ _ _ h => h) (by rfl) (by assumption) ?_; (simp only [Act.at, List.setIfInBounds_toArray, List.set_cons_zero, List.set_cons_succ]))
      first
      | (refine take_wanted (i := 4) (v := ?_) rfl rfl (by kernel_rfl) (by kernel_rfl) (by kernel_rfl) (fun _ _ _ h => h) (by rfl) (by assumption) ?_ ?_; rotate_left; (focus (intro w hSw; (try dsimp only at hSw); go_simp; first | done | with_reducible rfl)); (simp only [Act.at, List.setIfInBounds_toArray, List.set_cons_zero, List.set_cons_succ]))
      | (refine take_unwanted (i := 4) rfl rfl (by kernel_rfl) (by kernel_rfl) (by kernel_rfl) (fun _ _ _ h => h) (by rfl) (by assumption) ?_; (simp only [Act.at, List.setIfInBounds_toArray, List.set_cons_zero, List.set_cons_succ]))
      first
      | (refine take_wanted (i := 5) (v := ?_) rfl rfl (by kernel_rfl) (by kernel_rfl) (by kernel_rfl) (fun _ _ _ h => h) (by rfl) (by assumption) ?_ ?_; rotate_left; (focus (intro w hSw; (try dsimp only at hSw); go_simp; first | done | with_reducible rfl)); (simp only [Act.at, List.setIfInBounds_toArray, List.set_cons_zero, List.set_cons_succ]))
      | (refine take_unwanted (i := 5) rfl rfl (by kernel_rfl) (by kernel_rfl) (by kernel_rfl) (fun _ _ _ h => h) (by rfl) (by assumption) ?_; (simp only [Act.at, List.setIfInBounds_toArray, List.set_cons_zero, List.set_cons_succ]))
      refine take_call (i := 6) (by kernel_rfl) rfl rfl (by rfl) (fun K hK => ?_)
      go_simp
      refine (HT.out _ A b cap HW.out.2.1).mono ?_
      rintro r w3 ⟨A', b', cap', rfl, -, hF', hb3⟩
      replace HW := Lib.hid (And.intro (HW.out.1.below hb3 HW.out.1.lt) (And.intro (HW.out.2.1.below hb3 (Nat.le_refl _)) (HW.out.2.2.trans (hb3.mono HW.out.2.2.size))))
      clear hx hb3
      have hx : PLies w1.heap.size id cls A L.length cap w3 := ⟨HW.out.1.cell 0, HW.out.1.cell 1, HW.out.1.cell 2⟩
      refine hK.out _ _ hx (fun hHeld => ?_)
      clear hK K
      try simp only [Act.put, List.setIfInBounds_toArray, List.set_cons_zero, List.set_cons_succ]
      refine take_call (i := 7) (by kernel_rfl) rfl rfl (by rfl) (fun K hK => ?_)
      go_simp
      refine (HS.out _ A b cap A' b' cap' HW.out.2.1 hF').mono ?_
      rintro r w4 ⟨rfl, hb4⟩
      replace HW := Lib.hid (And.intro (HW.out.1.below hb4 HW.out.1.lt) (And.intro (HW.out.2.1.below hb4 (Nat.le_refl _)) (HW.out.2.2.trans (hb4.mono HW.out.2.2.size))))
      clear hx hb4 hF'
      have hx : PLies w1.heap.size id cls A L.length cap w4 := ⟨HW.out.1.cell 0, HW.out.1.cell 1, HW.out.1.cell 2⟩
      refine hK.out _ _ hx (fun hHeld => ?_)
      clear hK K
      try simp only [Act.put, List.setIfInBounds_toArray, List.set_cons_zero, List.set_cons_succ]
      first
      | (refine take_wanted (i := 8) (v := ?_) rfl rfl (by kernel_rfl) (by kernel_rfl) (by kernel_rfl) (fun _ _ _ h => h) (by rfl) (by assumption) ?_ ?_; rotate_left; (focus (intro w hSw; (try dsimp only at hSw); go_simp; first | done | with_reducible rfl)); (simp only [Act.at, List.setIfInBounds_toArray, List.set_cons_zero, List.set_cons_succ]))
      | (refine take_unwanted (i := 8) rfl rfl (by kernel_rfl) (by kernel_rfl) (by kernel_rfl) (fun _ _ _ h => h) (by rfl) (by assumption) ?_; (simp only [Act.at, List.setIfInBounds_toArray, List.set_cons_zero, List.set_cons_succ]))
      first
      | (refine take_wanted (i := 9) (v := ?_) rfl rfl (by kernel_rfl) (by kernel_rfl) (by kernel_rfl) (fun _ _ _ h => h) (by rfl) (by assumption) ?_ ?_; rotate_left; (focus (intro w hSw; (try dsimp only at hSw); go_simp; first | done | with_reducible rfl)); (simp only [Act.at, List.setIfInBounds_toArray, List.set_cons_zero, List.set_cons_succ]))
      | (refine take_unwanted (i := 9) rfl rfl (by kernel_rfl) (by kernel_rfl) (by kernel_rfl) (fun _ _ _ h => h) (by rfl) (by assumption) ?_; (simp only [Act.at, List.setIfInBounds_toArray, List.set_cons_zero, List.set_cons_succ]))
      first
      | (refine take_wanted (i := 10) (v := ?_) rfl rfl (by kernel_rfl) (by kernel_rfl) (by kernel_rfl) (fun _ _ _ h => h) (by rfl) (by assumption) ?_ ?_; rotate_left; (focus (intro w hSw; (try dsimp only at hSw); go_simp; first | done | with_reducible rfl)); (simp only [Act.at, List.setIfInBounds_toArray, List.set_cons_zero, List.set_cons_succ]))
      | (refine take_unwanted (i := 10) rfl rfl (by kernel_rfl) (by kernel_rfl) (by kernel_rfl) (fun _ _ _ h => h) (by rfl) (by assumption) ?_; (simp only [Act.at, List.setIfInBounds_toArray, List.set_cons_zero, List.set_cons_succ]))
      first
      | (refine take_wanted (i := 12) (v := ?_) rfl rfl (by kernel_rfl) (by kernel_rfl) (by kernel_rfl) (fun _ _ _ h => h) (by rfl) (by assumption) ?_ ?_; rotate_left; (focus (intro w hSw; (try dsimp only at hSw); go_simp; first | done | with_reducible rfl)); (simp only [Act.at, List.setIfInBounds_toArray, List.set_cons_zero, List.set_cons_succ]))
      | (refine take_unwanted (i := 12) rfl rfl (by kernel_rfl) (by kernel_rfl) (by kernel_rfl) (fun _ _ _ h => h) (by rfl) (by assumption) ?_; (simp only [Act.at, List.setIfInBounds_toArray, List.set_cons_zero, List.set_cons_succ]))
      refine take_call (i := 11) (by kernel_rfl) rfl rfl (by rfl) (fun K hK => ?_)
      go_simp
      refine (HB.out _ A b cap HW.out.2.1).mono ?_
      rintro r w5 ⟨rfl, hb5⟩
      replace HW := Lib.hid (And.intro (HW.out.1.below hb5 HW.out.1.lt) (And.intro (HW.out.2.1.below hb5 (Nat.le_refl _)) (HW.out.2.2.trans (hb5.mono HW.out.2.2.size))))
      clear hx hb5
      have hx : PLies w1.heap.size id cls A L.length cap w5 := ⟨HW.out.1.cell 0, HW.out.1.cell 1, HW.out.1.cell 2⟩
      refine hK.out _ _ hx (fun hHeld => ?_)
      clear hK K
      try simp only [Act.put, List.setIfInBounds_toArray, List.set_cons_zero, List.set_cons_succ]
      first
      | (refine take_wanted (i := 13) (v := ?_) rfl rfl (by kernel_rfl) (by kernel_rfl) (by kernel_rfl) (fun _ _ _ h => h) (by rfl) (by assumption) ?_ ?_; rotate_left; (focus (intro w hSw; (try dsimp only at hSw); go_simp; first | done | with_reducible rfl)); (simp only [Act.at, List.setIfInBounds_toArray, List.set_cons_zero, List.set_cons_succ]))
      | (refine take_unwanted (i := 13) rfl rfl (by kernel_rfl) (by kernel_rfl) (by kernel_rfl) (fun _ _ _ h => h) (by rfl) (by assumption) ?_; (simp only [Act.at, List.setIfInBounds_toArray, List.set_cons_zero, List.set_cons_succ]))
      first
      | (refine take_wanted (i := 14) (v := ?_) rfl rfl (by kernel_rfl) (by kernel_rfl) (by kernel_rfl) (fun _ _ _ h => h) (by rfl) (by assumption) ?_ ?_; rotate_left; (focus (intro w hSw; (try dsimp only at hSw); go_simp; first | done | with_reducible rfl)); (simp only [Act.at, List.setIfInBounds_toArray, List.set_cons_zero, List.set_cons_succ]))
      | (refine take_unwanted (i := 14) rfl rfl (by kernel_rfl) (by kernel_rfl) (by kernel_rfl) (fun _ _ _ h => h) (by rfl) (by assumption) ?_; (simp only [Act.at, List.setIfInBounds_toArray, List.set_cons_zero, List.set_cons_succ]))
      first
      | (refine take_wanted (i := 15) (v := ?_) rfl rfl (by kernel_rfl) (by kernel_rfl) (by kernel_rfl) (fun _ _ _ h => h) (by rfl) (by assumption) ?_ ?_; rotate_left; (focus (intro w hSw; (try dsimp only at hSw); go_simp; first | done | with_reducible rfl)); (simp only [Act.at, List.setIfInBounds_toArray, List.set_cons_zero, List.set_cons_succ]))
      | (refine take_unwanted (i := 15) rfl rfl (by kernel_rfl) (by kernel_rfl) (by kernel_rfl) (fun _ _ _ h => h) (by rfl) (by assumption) ?_; (simp only [Act.at, List.setIfInBounds_toArray, List.set_cons_zero, List.set_cons_succ]))
      refine take_call (i := 16) (by kernel_rfl) rfl rfl (by rfl) (fun K hK => ?_)
      go_simp
      refine (HA.out _).mono ?_
      rintro r w6 ⟨rfl, hb6⟩
      replace HW := Lib.hid (And.intro (HW.out.1.below hb6 HW.out.1.lt) (And.intro (HW.out.2.1.below hb6 (Nat.le_refl _)) (HW.out.2.2.trans (hb6.mono HW.out.2.2.size))))
      clear hx hb6
      have hx : PLies w1.heap.size id cls A L.length cap w6 := ⟨HW.out.1.cell 0, HW.out.1.cell 1, HW.out.1.cell 2⟩
      refine hK.out _ _ hx (fun hHeld => ?_)
      clear hK K
      try simp only [Act.put, List.setIfInBounds_toArray, List.set_cons_zero, List.set_cons_succ]
      first
      | (refine take_wanted (i := 17) (v := ?_) rfl rfl (by kernel_rfl) (by kernel_rfl) (by kernel_rfl) (fun _ _ _ h => h) (by rfl) (by assumption) ?_ ?_; rotate_left; (focus (intro w hSw; (try dsimp only at hSw); go_simp; first | done | with_reducible rfl)); (simp only [Act.at, List.setIfInBounds_toArray, List.set_cons_zero, List.set_cons_succ]))
      | (refine take_unwanted (i := 17) rfl rfl (by kernel_rfl) (by kernel_rfl) (by kernel_rfl) (fun _ _ _ h => h) (by rfl) (by assumption) ?_; (simp only [Act.at, List.setIfInBounds_toArray, List.set_cons_zero, List.set_cons_succ]))
      first
      | (refine take_wanted (i := 18) (v := ?_) rfl rfl (by kernel_rfl) (by kernel_rfl) (by kernel_rfl) (fun _ _ _ h => h) (by rfl) (by assumption) ?_ ?_; rotate_left; (focus (intro w hSw; (try dsimp only at hSw); go_simp; first | done | with_reducible rfl)); (simp only [Act.at, List.setIfInBounds_toArray, List.set_cons_zero, List.set_cons_succ]))
      | (refine take_unwanted (i := 18) rfl rfl (by kernel_rfl) (by kernel_rfl) (by kernel_rfl) (fun _ _ _ h => h) (by rfl) (by assumption) ?_; (simp only [Act.at, List.setIfInBounds_toArray, List.set_cons_zero, List.set_cons_succ]))
      refine wpAnyH_done (by kernel_rfl) ?_ _
      go_wp2_with fail
      go_ret
      exact ⟨rfl, HW.out.2.2⟩
  · obtain ⟨rfl, rfl, rfl⟩ := hok.1 he
    have heb : (e != 0) = true := by simpa using he
    have hS := fun W A cap => lsame_any [] 0 [] [] 0 [] 0 0 cap 0 A none W (fun h => absurd rfl h) (fun h => absurd rfl h) (by decide) (by decide)
    rw [show Pap.same [] 0 [] [] 0 [] = true by decide] at hS
    clear hok hfd he
    have HS := Lib.hid hS; clear hS hl
    rcases h with h | ⟨h, rfl⟩
    case' inr => clear hs
    all_goals
      go_enter Try.func6, Try.ntmps6
      go_wp2_with fail
      refine (HR.out _).mono ?_
      rintro r w1 ⟨A, b, cap, rfl, hF1, hb1⟩
      clear hF1
      go_wp2_with fail
      refine (HS.out _ A cap).mono ?_
      rintro r w2 ⟨rfl, hb2⟩
      have hb3 := (hb1.trans ((up1 _).mono hb1.size)).trans (hb2.mono (by have := hb1.size; simp; omega))
      go_wp2_with fail
      refine (HA.out _).mono ?_
      rintro r w3 ⟨rfl, hb4⟩
      go_wp2_with fail
      go_ret
      exact ⟨rfl, hb3.trans (hb4.mono hb3.size)⟩
theorem paperReads_walk (l : List UInt8) (w : World) :
    Calls Try.prog 6 #[.string (S l)] w fun e w' => e = .returned (.bool true) ∧ Below w.heap.size w w' := by
  refine paperReads_short l _ rfl w ?_
  by_cases h : (4000 : Int) < (l.length : Int)
  · exact Or.inl h
  · exact Or.inr ⟨h, List.take_of_length_le (by omega)⟩

set_option maxRecDepth 100000 in
theorem paperReads_contract {H : Type} (enc : TypeId × Value → H) (W : World) (base : Nat) (args : Array Value) (ds gs : List (DataW H)) (before : List MemPlace)
    (hval : ∀ (j : Nat) t v, Try.f6.params[j]? = some t → args[j]? = some v → Value.okWide Try.prog W .any base t v)
    (hW : DataW.Whole enc Try.prog Try.f6.params.toList Rows.paperReadsSpec.vars false W args.toList ds gs before)
    (hsz : (DataW.weightsEach Try.prog (Try.f6.params.toList ++ Rows.paperReadsSpec.plain.varTypes Try.prog) (ds ++ gs)).all (· ≤ reachBytes) = true) :
    Calls Try.prog 6 args W fun e W' =>
      ((Rows.paperReadsSpec.fn H (ds ++ gs)).results = [.lit (.bool true)] ∧ (Rows.paperReadsSpec.fn H (ds ++ gs)).args = ds ∧ (Rows.paperReadsSpec.fn H (ds ++ gs)).vars = []) ∧ e = .returned (.bool true) ∧ Below W.heap.size W W' := by
  obtain ⟨p, q, hA0, hV, rfl, hfz, hnd⟩ := hW
  have hA : DataW.TrodAll enc Try.prog W 0 (fun _ => true) true Try.f6.params.toList args.toList ds p := hA0
  rw [Try.params6] at hA hval hsz
  obtain ⟨v0, d0, rfl, rfl, h0⟩ := trodAll_one hA
  obtain ⟨rfl, rfl⟩ := trodVars_none hV
  obtain ⟨s, rfl, rfl, rfl, max_s⟩ := open_string Try.underlying9 (hval 0 9 v0 rfl rfl) h0
  have len_s : s.data.toList.length ≤ reachBytes := sized_string hsz (j := 0) (t := 9) rfl rfl
  rw [← S_of s]
  exact (paperReads_walk s.data.toList W).mono fun e W' h => ⟨⟨rfl, rfl, rfl⟩, h⟩

end Go.Proofs.Ytaelidkbdndihaa
