/-
  The law's own of the sixteenth layer: stands.
-/
import Derived.Test.YtojemaaljjibiaaPStateSames
open List (setIfInBounds_toArray set_cons_zero set_cons_succ)
namespace Go.Proofs.Ytojemaaljjibiaa
open Go.RowKit
set_option linter.unusedVariables false

theorem map_at {M : List EntX} {P : List Ent} (h : M.map EntX.e = P) (k : Nat) (hk : k < M.length) (hp : k < P.length) : (M[k]).e = P[k] := by
  subst h
  rw [List.getElem_map]
/-- A paper's own variable. -/
abbrev XBox3 (W : World) (b : Nat) (x : EntX) : Prop := Has W b 33 #[.string (S x.e.id), .int .i64 x.e.cls, .int .i64 x.e.born, .int .i64 x.e.slot, .slice x.A x.e.L.length x.ca, .bool x.e.gone, .slice x.B x.e.H.length x.cb]
theorem run_ptneq (n : Int) (r : List UInt8) (n' : Int) (r' : List UInt8) (W : World) : (binOp .neq 35 (ptv n r) (ptv n' r')).run Try.prog W = .ok (.bool (!decide (n = n' ∧ r = r'))) W := by
  have h := run_pteq n r n' r' W
  rw [run_eql_struct] at h
  rw [run_neq_struct]
  generalize (Op.equalIn 10000 _ _ _).run _ _ = R at h ⊢
  cases R with
  | ok a w => simp [Result.andThen] at h ⊢; obtain ⟨h1, h2⟩ := h; exact ⟨by rw [h1], h2⟩
  | _ => simp [Result.andThen] at h
/-- What stands reads of a checkpoint, twice over. -/
abbrev StdQ (b o c o2 : Nat) (n : Int) (r : List UInt8) (p : Nat) (PB : Option Addr) (l pcb : Nat) (W : World) : Prop :=
  W.cell? ⟨b, o, none⟩ = some (.int .i64 n) ∧ W.cell? ⟨b, o + 1, none⟩ = some (.string (S r)) ∧ W.cell? ⟨c, o2, none⟩ = some (.int .i64 n) ∧ W.cell? ⟨c, o2 + 1, none⟩ = some (.string (S r)) ∧ W.cell? ⟨p, 1, none⟩ = some (.slice PB l pcb)
/-- What stands reads of the reference's state. -/
abbrev StdS (p : Nat) (PA : Option Addr) (m pca : Nat) (now : Int) (W : World) : Prop := W.cell? ⟨p, 0, none⟩ = some (.slice PA m pca) ∧ W.cell? ⟨p, 2, none⟩ = some (.int .i64 now)
/-- What stands reads of a paper, three times over. -/
abbrev StdE (b o : Nat) (x : EntX) (c o2 : Nat) (y : EntX) (p : Nat) (PA : Option Addr) (m pca b4 : Nat) (id : List UInt8) (cls born slot : Int) (A : Option Addr) (n ca : Nat) (gone : Bool) (B : Option Addr) (h cb : Nat) (W : World) : Prop :=
  TwoX b o x c o2 y W ∧ W.cell? ⟨p, 0, none⟩ = some (.slice PA m pca) ∧ W.cell? ⟨b4, 0, none⟩ = some (.string (S id)) ∧ W.cell? ⟨b4, 1, none⟩ = some (.int .i64 cls) ∧ W.cell? ⟨b4, 2, none⟩ = some (.int .i64 born) ∧ W.cell? ⟨b4, 3, none⟩ = some (.int .i64 slot) ∧
    W.cell? ⟨b4, 4, none⟩ = some (.slice A n ca) ∧ W.cell? ⟨b4, 5, none⟩ = some (.bool gone) ∧ W.cell? ⟨b4, 6, none⟩ = some (.slice B h cb)
set_option maxRecDepth 100000 in
set_option maxHeartbeats 16000000 in
theorem stands_any {w : World} {q : Nat} {s ot : List Nat} {st : Sta} {n : Nat} (h : StAt w q s ot st n) (hI : Sta.Inv st) (hQ : st.Q.length ≤ 1000) {p : Nat} {t ot2 : List Nat} (hr : RefS w p t ot2 st) :
    Calls Try.prog 15 #[.pointer (some ⟨q, 0, none⟩), .pointer (some ⟨p, 0, none⟩)] w fun r w' => r = .returned (.bool true) ∧ Below w.heap.size w w' := by
  obtain ⟨M, hM, hra⟩ := hr
  obtain ⟨PA, pca, PB, pcb, hh, hca, hcb, hcm, hx, hp⟩ := hra.reads
  obtain ⟨m, em⟩ : ∃ m, M.length = m := ⟨_, rfl⟩
  have emP : st.P.length = m := by rw [← hM, List.length_map, em]
  have HC : Hid (∀ W, Below w.heap.size w W → (W.cell? ⟨p, 0, none⟩ = some (.slice PA m pca) ∧ W.cell? ⟨p, 1, none⟩ = some (.slice PB st.Q.length pcb) ∧ W.cell? ⟨p, 2, none⟩ = some (.int .i64 st.now)) ∧
      (∀ k (hk : k < M.length), ∃ b, PA = some ⟨b, 0, none⟩ ∧ XAt W b (k * 7) M[k]) ∧ (∀ k (hk : k < st.Q.length), ∃ b, PB = some ⟨b, 0, none⟩ ∧ W.cell? ⟨b, k * 2, none⟩ = some (.int .i64 (st.Q[k]).size) ∧ W.cell? ⟨b, k * 2 + 1, none⟩ = some (.string (S (st.Q[k]).root))) ∧ (∀ x ∈ M, XIn W [] x)) := Lib.hid (fun W hb => by
    have cc := fun i v (hc : w.cell? ⟨p, i, none⟩ = some v) => (hb.cell (p := ⟨p, i, none⟩) hh.lt).trans hc
    refine ⟨⟨cc 0 _ (by rw [hh.cell 0, ← em]; rfl), cc 1 _ (hh.cell 1), cc 2 _ (hh.cell 2)⟩, fun k hk => ?_, fun k hk => ?_, fun x hx => ((hra.ents x hx).sub (by simp)).below hb⟩
    · obtain ⟨b, hA, hbl, hat⟩ := hx k hk
      exact ⟨b, hA, hat.below hb hbl⟩
    · obtain ⟨b, hA, hbl, h1, h2⟩ := hp k hk
      exact ⟨b, hA, (hb.cell (p := ⟨b, k * 2, none⟩) hbl).trans h1, (hb.cell (p := ⟨b, k * 2 + 1, none⟩) hbl).trans h2⟩)
  have HB := Lib.hid (And.intro hM (And.intro em (And.intro hca (And.intro hcb hcm))))
  have HE := Lib.hid (stEntries h hI)
  have HLEN := Lib.hid (fun W (hb : Below w.heap.size w W) => stLen (h.below hb) hI)
  have HNOW := Lib.hid (fun W (hb : Below w.heap.size w W) => stNow (h.below hb))
  rw [emP] at HLEN
  have HI := Lib.hid (And.intro h (And.intro hI hQ))
  clear hM em hca hcb hcm hx hp hra hh h hI hQ
  go_enter Try.func15, Try.ntmps15
  go_wp2_with fail
  refine HE.out.mono ?_
  rintro r w1 ⟨A1, c1, M1, rfl, hM1, hl1, hm1, hr1, hb1⟩
  have em1 : M1.length = m := by have := congrArg List.length hM1; rw [List.length_map] at this; omega
  have HM1 := Lib.hid (And.intro hM1 (And.intro em1 (And.intro hl1 hm1)))
  have HR1 := Lib.hid (hr1.sub (t := []) (by simp))
  have HB1 := Lib.hid hb1
  rw [em1]
  clear hM1 hl1 hm1 hr1 hb1 em1 emP HE
  go_upto_region 2 with fail
  go_cut [51] (fun v51 W => v51 = .bool false ∧ Hid (Below w.heap.size w W ∧ Below w1.heap.size w1 W))
  case first =>
    obtain ⟨⟨c0, -, c2⟩, -, -, -⟩ := HC.out w1.drew HB1.out.drew
    have hS : StdS p PA m pca st.now w1.drew := ⟨c0, c2⟩
    have HSB := Lib.hid (fun W (hb : Below w.heap.size w W) => (show StdS p PA m pca st.now W from ⟨(HC.out W hb).1.1, (HC.out W hb).1.2.2⟩))
    have HBD : Hid (Below w.heap.size w w1.drew ∧ Below w1.heap.size w1 w1.drew) := Lib.hid ⟨HB1.out.drew, (Below.refl _ w1).drew⟩
    clear c0 c2
    refine wp_region_held_drew (S := StdS p PA m pca st.now) (by kernel_rfl) hS (fun hHeld => ?_)
    generalize w1.drew = wd at hS hHeld HBD ⊢
    first
    | (refine tkW (i := 0) (v := ?_) rfl rfl ?_ ?_; rotate_left; (focus (intro w hSw; (try dsimp only at hSw); go_simp; first | done | with_reducible rfl)); (simp only [Act.at, setIfInBounds_toArray, set_cons_zero, set_cons_succ]))
    | (refine tkU (i := 0) rfl rfl ?_; (simp only [Act.at, setIfInBounds_toArray, set_cons_zero, set_cons_succ]))
    first
    | (refine tkW (i := 1) (v := ?_) rfl rfl ?_ ?_; rotate_left; (focus (intro w hSw; (try dsimp only at hSw); go_simp; first | done | with_reducible rfl)); (simp only [Act.at, setIfInBounds_toArray, set_cons_zero, set_cons_succ]))
    | (refine tkU (i := 1) rfl rfl ?_; (simp only [Act.at, setIfInBounds_toArray, set_cons_zero, set_cons_succ]))
    first
    | (refine tkW (i := 2) (v := ?_) rfl rfl ?_ ?_; rotate_left; (focus (intro w hSw; (try dsimp only at hSw); go_simp; first | done | with_reducible rfl)); (simp only [Act.at, setIfInBounds_toArray, set_cons_zero, set_cons_succ]))
    | (refine tkU (i := 2) rfl rfl ?_; (simp only [Act.at, setIfInBounds_toArray, set_cons_zero, set_cons_succ]))
    first
    | (refine tkW (i := 3) (v := ?_) rfl rfl ?_ ?_; rotate_left; (focus (intro w hSw; (try dsimp only at hSw); go_simp; first | done | with_reducible rfl)); (simp only [Act.at, setIfInBounds_toArray, set_cons_zero, set_cons_succ]))
    | (refine tkU (i := 3) rfl rfl ?_; (simp only [Act.at, setIfInBounds_toArray, set_cons_zero, set_cons_succ]))
    first
    | (refine tkW (i := 4) (v := ?_) rfl rfl ?_ ?_; rotate_left; (focus (intro w hSw; (try dsimp only at hSw); go_simp; first | done | with_reducible rfl)); (simp only [Act.at, setIfInBounds_toArray, set_cons_zero, set_cons_succ]))
    | (refine tkU (i := 4) rfl rfl ?_; (simp only [Act.at, setIfInBounds_toArray, set_cons_zero, set_cons_succ]))
    first
    | (refine tkW (i := 5) (v := ?_) rfl rfl ?_ ?_; rotate_left; (focus (intro w hSw; (try dsimp only at hSw); go_simp; first | done | with_reducible rfl)); (simp only [Act.at, setIfInBounds_toArray, set_cons_zero, set_cons_succ]))
    | (refine tkU (i := 5) rfl rfl ?_; (simp only [Act.at, setIfInBounds_toArray, set_cons_zero, set_cons_succ]))
    first
    | (refine tkW (i := 6) (v := ?_) rfl rfl ?_ ?_; rotate_left; (focus (intro w hSw; (try dsimp only at hSw); go_simp; first | done | with_reducible rfl)); (simp only [Act.at, setIfInBounds_toArray, set_cons_zero, set_cons_succ]))
    | (refine tkU (i := 6) rfl rfl ?_; (simp only [Act.at, setIfInBounds_toArray, set_cons_zero, set_cons_succ]))
    first
    | (refine tkW (i := 7) (v := ?_) rfl rfl ?_ ?_; rotate_left; (focus (intro w hSw; (try dsimp only at hSw); go_simp; first | done | with_reducible rfl)); (simp only [Act.at, setIfInBounds_toArray, set_cons_zero, set_cons_succ]))
    | (refine tkU (i := 7) rfl rfl ?_; (simp only [Act.at, setIfInBounds_toArray, set_cons_zero, set_cons_succ]))
    first
    | (refine tkW (i := 8) (v := ?_) rfl rfl ?_ ?_; rotate_left; (focus (intro w hSw; (try dsimp only at hSw); go_simp; first | done | with_reducible rfl)); (simp only [Act.at, setIfInBounds_toArray, set_cons_zero, set_cons_succ]))
    | (refine tkU (i := 8) rfl rfl ?_; (simp only [Act.at, setIfInBounds_toArray, set_cons_zero, set_cons_succ]))
    first
    | (refine tkW (i := 9) (v := ?_) rfl rfl ?_ ?_; rotate_left; (focus (intro w hSw; (try dsimp only at hSw); go_simp; first | done | with_reducible rfl)); (simp only [Act.at, setIfInBounds_toArray, set_cons_zero, set_cons_succ]))
    | (refine tkU (i := 9) rfl rfl ?_; (simp only [Act.at, setIfInBounds_toArray, set_cons_zero, set_cons_succ]))
    first
    | (refine tkW (i := 11) (v := ?_) rfl rfl ?_ ?_; rotate_left; (focus (intro w hSw; (try dsimp only at hSw); go_simp; first | done | with_reducible rfl)); (simp only [Act.at, setIfInBounds_toArray, set_cons_zero, set_cons_succ]))
    | (refine tkU (i := 11) rfl rfl ?_; (simp only [Act.at, setIfInBounds_toArray, set_cons_zero, set_cons_succ]))
    first
    | (refine tkW (i := 12) (v := ?_) rfl rfl ?_ ?_; rotate_left; (focus (intro w hSw; (try dsimp only at hSw); go_simp; first | done | with_reducible rfl)); (simp only [Act.at, setIfInBounds_toArray, set_cons_zero, set_cons_succ]))
    | (refine tkU (i := 12) rfl rfl ?_; (simp only [Act.at, setIfInBounds_toArray, set_cons_zero, set_cons_succ]))
    first
    | (refine tkW (i := 13) (v := ?_) rfl rfl ?_ ?_; rotate_left; (focus (intro w hSw; (try dsimp only at hSw); go_simp; first | done | with_reducible rfl)); (simp only [Act.at, setIfInBounds_toArray, set_cons_zero, set_cons_succ]))
    | (refine tkU (i := 13) rfl rfl ?_; (simp only [Act.at, setIfInBounds_toArray, set_cons_zero, set_cons_succ]))
    first
    | (refine tkW (i := 14) (v := ?_) rfl rfl ?_ ?_; rotate_left; (focus (intro w hSw; (try dsimp only at hSw); go_simp; first | done | with_reducible rfl)); (simp only [Act.at, setIfInBounds_toArray, set_cons_zero, set_cons_succ]))
    | (refine tkU (i := 14) rfl rfl ?_; (simp only [Act.at, setIfInBounds_toArray, set_cons_zero, set_cons_succ]))
    first
    | (refine tkW (i := 15) (v := ?_) rfl rfl ?_ ?_; rotate_left; (focus (intro w hSw; (try dsimp only at hSw); go_simp; first | done | with_reducible rfl)); (simp only [Act.at, setIfInBounds_toArray, set_cons_zero, set_cons_succ]))
    | (refine tkU (i := 15) rfl rfl ?_; (simp only [Act.at, setIfInBounds_toArray, set_cons_zero, set_cons_succ]))
    refine take_call (i := 10) (by kernel_rfl) rfl rfl (by rfl) (fun K hK => ?_)
    go_simp
    refine (HLEN.out wd HBD.out.1).mono ?_
    rintro r w2 ⟨rfl, hb2⟩
    have HBE := Lib.hid (And.intro (HBD.out.1.trans (hb2.mono HBD.out.1.size)) (HBD.out.2.trans (hb2.mono HBD.out.2.size)))
    have hS2 := HSB.out w2 HBE.out.1
    clear hb2 HBD hS hHeld
    refine hK.out _ _ hS2 (fun hHeld => ?_)
    clear hK K
    try simp only [Act.put, setIfInBounds_toArray, set_cons_zero, set_cons_succ]
    first
    | (refine tkW (i := 16) (v := ?_) rfl rfl ?_ ?_; rotate_left; (focus (intro w hSw; (try dsimp only at hSw); go_simp; first | done | with_reducible rfl)); (simp only [Act.at, setIfInBounds_toArray, set_cons_zero, set_cons_succ]))
    | (refine tkU (i := 16) rfl rfl ?_; (simp only [Act.at, setIfInBounds_toArray, set_cons_zero, set_cons_succ]))
    first
    | (refine tkW (i := 17) (v := ?_) rfl rfl ?_ ?_; rotate_left; (focus (intro w hSw; (try dsimp only at hSw); go_simp; first | done | with_reducible rfl)); (simp only [Act.at, setIfInBounds_toArray, set_cons_zero, set_cons_succ]))
    | (refine tkU (i := 17) rfl rfl ?_; (simp only [Act.at, setIfInBounds_toArray, set_cons_zero, set_cons_succ]))
    first
    | (refine tkW (i := 18) (v := ?_) rfl rfl ?_ ?_; rotate_left; (focus (intro w hSw; (try dsimp only at hSw); go_simp; first | done | with_reducible rfl)); (simp only [Act.at, setIfInBounds_toArray, set_cons_zero, set_cons_succ]))
    | (refine tkU (i := 18) rfl rfl ?_; (simp only [Act.at, setIfInBounds_toArray, set_cons_zero, set_cons_succ]))
    first
    | (refine tkW (i := 19) (v := ?_) rfl rfl ?_ ?_; rotate_left; (focus (intro w hSw; (try dsimp only at hSw); go_simp; first | done | with_reducible rfl)); (simp only [Act.at, setIfInBounds_toArray, set_cons_zero, set_cons_succ]))
    | (refine tkU (i := 19) rfl rfl ?_; (simp only [Act.at, setIfInBounds_toArray, set_cons_zero, set_cons_succ]))
    first
    | (refine tkW (i := 21) (v := ?_) rfl rfl ?_ ?_; rotate_left; (focus (intro w hSw; (try dsimp only at hSw); go_simp; first | done | with_reducible rfl)); (simp only [Act.at, setIfInBounds_toArray, set_cons_zero, set_cons_succ]))
    | (refine tkU (i := 21) rfl rfl ?_; (simp only [Act.at, setIfInBounds_toArray, set_cons_zero, set_cons_succ]))
    first
    | (refine tkW (i := 22) (v := ?_) rfl rfl ?_ ?_; rotate_left; (focus (intro w hSw; (try dsimp only at hSw); go_simp; first | done | with_reducible rfl)); (simp only [Act.at, setIfInBounds_toArray, set_cons_zero, set_cons_succ]))
    | (refine tkU (i := 22) rfl rfl ?_; (simp only [Act.at, setIfInBounds_toArray, set_cons_zero, set_cons_succ]))
    first
    | (refine tkW (i := 23) (v := ?_) rfl rfl ?_ ?_; rotate_left; (focus (intro w hSw; (try dsimp only at hSw); go_simp; first | done | with_reducible rfl)); (simp only [Act.at, setIfInBounds_toArray, set_cons_zero, set_cons_succ]))
    | (refine tkU (i := 23) rfl rfl ?_; (simp only [Act.at, setIfInBounds_toArray, set_cons_zero, set_cons_succ]))
    first
    | (refine tkW (i := 24) (v := ?_) rfl rfl ?_ ?_; rotate_left; (focus (intro w hSw; (try dsimp only at hSw); go_simp; first | done | with_reducible rfl)); (simp only [Act.at, setIfInBounds_toArray, set_cons_zero, set_cons_succ]))
    | (refine tkU (i := 24) rfl rfl ?_; (simp only [Act.at, setIfInBounds_toArray, set_cons_zero, set_cons_succ]))
    refine take_call (i := 20) (by kernel_rfl) rfl rfl (by rfl) (fun K hK => ?_)
    go_simp
    refine (HNOW.out w2 HBE.out.1).mono ?_
    rintro r w3 ⟨rfl, hb3⟩
    have HBF := Lib.hid (And.intro (HBE.out.1.trans (hb3.mono HBE.out.1.size)) (HBE.out.2.trans (hb3.mono HBE.out.2.size)))
    have hS3 := HSB.out w3 HBF.out.1
    clear hb3 HBE hS2 hHeld
    refine hK.out _ _ hS3 (fun hHeld => ?_)
    clear hK K
    try simp only [Act.put, setIfInBounds_toArray, set_cons_zero, set_cons_succ]
    first
    | (refine tkW (i := 25) (v := ?_) rfl rfl ?_ ?_; rotate_left; (focus (intro w hSw; (try dsimp only at hSw); go_simp; first | done | with_reducible rfl)); (simp only [Act.at, setIfInBounds_toArray, set_cons_zero, set_cons_succ]))
    | (refine tkU (i := 25) rfl rfl ?_; (simp only [Act.at, setIfInBounds_toArray, set_cons_zero, set_cons_succ]))
    first
    | (refine tkW (i := 26) (v := ?_) rfl rfl ?_ ?_; rotate_left; (focus (intro w hSw; (try dsimp only at hSw); go_simp; first | done | with_reducible rfl)); (simp only [Act.at, setIfInBounds_toArray, set_cons_zero, set_cons_succ]))
    | (refine tkU (i := 26) rfl rfl ?_; (simp only [Act.at, setIfInBounds_toArray, set_cons_zero, set_cons_succ]))
    refine wpAnyH_done (by kernel_rfl) ?_ _
    go_wp2_with fail
    go_meet
    exact ⟨rfl, HBF⟩
  case rest =>
    obtain ⟨rfl, HW⟩ := hcut
    go_upto_block 0 with fail
    go_cut [6] (fun _ W => Hid (Below w.heap.size w W ∧ Below w1.heap.size w1 W))
    case first =>
      go_wp2_with fail
      go_loopg [6] m (fun n v6 wr => ∃ k : Nat, k + n = m ∧ v6 = .int .i64 (k : Int) ∧ Hid (Below w.heap.size w wr ∧ Below w1.heap.size w1 wr))
      case atStart => exact ⟨0, Nat.zero_add _, rfl, HW⟩
      case round =>
        obtain ⟨k, hkn, rfl, HBK⟩ := hrel
        have hk0 : (0 : Int) ≤ (k : Int) := by omega
        by_cases hlt : k < m
        · have hki : (k : Int) < (m : Int) := by omega
          obtain ⟨n2, hn⟩ : ∃ n2, gk = n2 + 1 := ⟨gk - 1, by omega⟩
          subst hn
          have hkP : k < st.P.length := by rw [← HB.out.1, List.length_map, HB.out.2.1]; exact hlt
          have HEN := Lib.hid (stEntry (HI.out.1.below HBK.out.1) HI.out.2.1 k hkP)
          have HKN := Lib.hid hkn
          clear hkn
          go_wp2_with fail
          refine HEN.out.mono ?_
          rintro r w2 ⟨z, rfl, hze, hzi, hb2⟩
          obtain ⟨⟨id3, cls3, born3, slot3, L3, gone3, H3⟩, zA, zca, zB, zcb⟩ := z
          dsimp only [EntX.val] at hze hzi ⊢
          go_upto_region 8 with fail
          have hb4 : Below w2.heap.size w2 (w2.alloc (.cells #[.string (S id3), .int .i64 cls3, .int .i64 born3, .int .i64 slot3, .slice zA L3.length zca, .bool gone3, .slice zB H3.length zcb] 33)) := (Below.refl _ w2).alloc (Nat.le_refl _) _
          have hz4 : XBox3 (w2.alloc (.cells #[.string (S id3), .int .i64 cls3, .int .i64 born3, .int .i64 slot3, .slice zA L3.length zca, .bool gone3, .slice zB H3.length zcb] 33)) w2.heap.size ⟨⟨id3, cls3, born3, slot3, L3, gone3, H3⟩, zA, zca, zB, zcb⟩ := Has.made w2 33 _
          have hzi4 := EntIn.below (EntIn.sub hzi (t := []) (by simp)) hb4
          have hbk := And.intro (HBK.out.1.trans ((hb2.trans (hb4.mono hb2.size)).mono HBK.out.1.size)) (HBK.out.2.trans ((hb2.trans (hb4.mono hb2.size)).mono HBK.out.2.size))
          generalize w2.alloc (.cells #[.string (S id3), .int .i64 cls3, .int .i64 born3, .int .i64 slot3, .slice zA L3.length zca, .bool gone3, .slice zB H3.length zcb] 33) = W4 at hz4 hzi4 hbk ⊢
          generalize w2.heap.size = b4 at hz4 ⊢
          have HZ := Lib.hid (And.intro hz4 (And.intro hzi4 hze))
          have HBZ := Lib.hid hbk
          clear hb2 hb4 hz4 hzi4 hbk hzi hze HEN
          have hk1 : k < M1.length := by have := HM1.out.2.1; omega
          have hkM : k < M.length := by have := HB.out.2.1; omega
          have hkc : (k : Int) < (c1 : Int) := by have := HM1.out.2.2.1; omega
          have hkc2 : (k : Int) < (pca : Int) := by have := HB.out.2.2.1; omega
          have hinc : IntKind.i64.wrap ((k : Int) + 1) = (k : Int) + 1 := by have := HM1.out.2.2; have := HM1.out.2.1; rw [IntKind.wrap_i64]; omega
          have e1 : (M1[k]).e = st.P[k] := map_at HM1.out.1 k hk1 hkP
          have e2 : (M[k]).e = st.P[k] := map_at HB.out.1 k hkM hkP
          obtain ⟨b, off, hA1, -, -, p0⟩ := RowX.get (HR1.out.below HBZ.out.2) k hk1
          obtain ⟨be, hA2, p1⟩ := (HC.out W4 HBZ.out.1).2.1 k hkM
          have HSQ := stSeq (HI.out.1.below HBZ.out.1) HI.out.2.1 k hkP
          rw [← e1] at HSQ
          have hin1 : ∀ W, Below w1.heap.size w1 W → XIn W [] M1[k] := fun W hb => (HR1.out.below hb).ents _ (List.getElem_mem hk1)
          have hin2 : ∀ W, Below w.heap.size w W → XIn W [] M[k] := fun W hb => (HC.out W hb).2.2.2 _ (List.getElem_mem hkM)
          have hat : ∀ W, Below w.heap.size w W → Below w1.heap.size w1 W → XAt W b (off + k * 7) M1[k] ∧ XAt W be (k * 7) M[k] ∧ W.cell? ⟨p, 0, none⟩ = some (.slice PA m pca) := fun W h1 h2 => by
            obtain ⟨b', off', hA1', -, -, p0'⟩ := RowX.get (HR1.out.below h2) k hk1
            obtain ⟨be', hA2', p1'⟩ := (HC.out W h1).2.1 k hkM
            rw [hA1] at hA1'
            rw [hA2] at hA2'
            injection hA1' with hA1'
            injection hA1' with a1 a2
            injection hA2' with hA2'
            injection hA2' with a3
            subst a1 a2 a3
            exact ⟨p0', p1', (HC.out W h1).1.1⟩
          obtain ⟨x, hx⟩ : ∃ x, M1[k] = x := ⟨_, rfl⟩
          obtain ⟨y, hy⟩ : ∃ y, M[k] = y := ⟨_, rfl⟩
          rw [hx] at p0 e1 HSQ
          rw [hy] at e2
          have hxe : x.e = y.e := e1.trans e2.symm
          have hze : (⟨id3, cls3, born3, slot3, L3, gone3, H3⟩ : Ent) = x.e := HZ.out.2.2.trans e1.symm
          have HSE : Hid (∀ W, Below w.heap.size w W → Below w1.heap.size w1 W → Below W4.heap.size W4 W → (Calls Try.prog 25 #[.agg #[.string (S x.e.id), .int .i64 x.e.cls, .int .i64 x.e.born, .int .i64 x.e.slot, .slice x.A x.e.L.length x.ca, .bool x.e.gone, .slice x.B x.e.H.length x.cb], .agg #[.string (S y.e.id), .int .i64 y.e.cls, .int .i64 y.e.born, .int .i64 y.e.slot, .slice y.A y.e.L.length y.ca, .bool y.e.gone, .slice y.B y.e.H.length y.cb]] W fun r w' => r = .returned (.bool true) ∧ Below W.heap.size W w') ∧
              (Calls Try.prog 25 #[.agg #[.string (S id3), .int .i64 cls3, .int .i64 born3, .int .i64 slot3, .slice zA L3.length zca, .bool gone3, .slice zB H3.length zcb], .agg #[.string (S x.e.id), .int .i64 x.e.cls, .int .i64 x.e.born, .int .i64 x.e.slot, .slice x.A x.e.L.length x.ca, .bool x.e.gone, .slice x.B x.e.H.length x.cb]] W fun r w' => r = .returned (.bool true) ∧ Below W.heap.size W w')) := Lib.hid (fun W h1 h2 h4 => by
            have g1 := hin1 W h2
            have g2 := hin2 W h1
            rw [hx] at g1
            rw [hy] at g2
            have r1 := esameE_any g1 g2
            have r2 := esameE_any (EntIn.below HZ.out.2.1 h4) g1
            rw [decide_eq_true hxe] at r1
            rw [decide_eq_true hze] at r2
            exact ⟨r1, r2⟩)
          have HST : Hid (∀ W, Below w.heap.size w W → Below w1.heap.size w1 W → Below W4.heap.size W4 W → StdE b (off + k * 7) x be (k * 7) y p PA m pca b4 id3 cls3 born3 slot3 zA L3.length zca gone3 zB H3.length zcb W) := Lib.hid (fun W h1 h2 h4 => by
            obtain ⟨a1, a2, a3⟩ := hat W h1 h2
            rw [hx] at a1
            rw [hy] at a2
            have hb := Has.below HZ.out.1 h4 (Has.lt HZ.out.1)
            exact ⟨⟨a1, a2⟩, a3, hb.cell 0, hb.cell 1, hb.cell 2, hb.cell 3, hb.cell 4, hb.cell 5, hb.cell 6⟩)
          have HSQ := Lib.hid HSQ
          have c0 : W4.cell? ⟨b, off + k * 7, none⟩ = some (.string (S x.e.id)) := p0.1
          subst hA1 hA2
          clear p0 p1 e1 e2 hin1 hin2 hat hx hy hxe hze HZ hkP HBK
          go_wp2_with fail
          refine HSQ.out.mono ?_
          rintro r w5 ⟨rfl, hb5⟩
          have HB5 := Lib.hid (And.intro (HBZ.out.1.trans (hb5.mono HBZ.out.1.size)) (And.intro (HBZ.out.2.trans (hb5.mono HBZ.out.2.size)) hb5))
          clear hb5 c0 HSQ
          go_upto_region 9 with fail
          go_cut [108] (fun v108 W => v108 = .bool false ∧ Hid (Below w.heap.size w W ∧ Below w1.heap.size w1 W))
          case first =>
            have hS := HST.out w5.drew HB5.out.1.drew HB5.out.2.1.drew HB5.out.2.2.drew
            have HBD : Hid (Below w.heap.size w w5.drew ∧ Below w1.heap.size w1 w5.drew ∧ Below W4.heap.size W4 w5.drew) := Lib.hid ⟨HB5.out.1.drew, HB5.out.2.1.drew, HB5.out.2.2.drew⟩
            refine wp_region_held_drew (S := StdE b (off + k * 7) x be (k * 7) y p (some ⟨be, 0, none⟩) m pca b4 id3 cls3 born3 slot3 zA L3.length zca gone3 zB H3.length zcb) (by kernel_rfl) hS (fun hHeld => ?_)
            generalize w5.drew = wd at hS hHeld HBD ⊢
            first
            | (refine tkW (i := 0) (v := ?_) rfl rfl ?_ ?_; rotate_left; (focus (intro w hSw; (try dsimp only at hSw); go_simp; first | done | with_reducible rfl)); (simp only [Act.at, setIfInBounds_toArray, set_cons_zero, set_cons_succ]))
            | (refine tkU (i := 0) rfl rfl ?_; (simp only [Act.at, setIfInBounds_toArray, set_cons_zero, set_cons_succ]))
            first
            | (refine tkW (i := 1) (v := ?_) rfl rfl ?_ ?_; rotate_left; (focus (intro w hSw; (try dsimp only at hSw); go_simp; first | done | with_reducible rfl)); (simp only [Act.at, setIfInBounds_toArray, set_cons_zero, set_cons_succ]))
            | (refine tkU (i := 1) rfl rfl ?_; (simp only [Act.at, setIfInBounds_toArray, set_cons_zero, set_cons_succ]))
            first
            | (refine tkW (i := 2) (v := ?_) rfl rfl ?_ ?_; rotate_left; (focus (intro w hSw; (try dsimp only at hSw); go_simp; first | done | with_reducible rfl)); (simp only [Act.at, setIfInBounds_toArray, set_cons_zero, set_cons_succ]))
            | (refine tkU (i := 2) rfl rfl ?_; (simp only [Act.at, setIfInBounds_toArray, set_cons_zero, set_cons_succ]))
            first
            | (refine tkW (i := 3) (v := ?_) rfl rfl ?_ ?_; rotate_left; (focus (intro w hSw; (try dsimp only at hSw); go_simp; first | done | with_reducible rfl)); (simp only [Act.at, setIfInBounds_toArray, set_cons_zero, set_cons_succ]))
            | (refine tkU (i := 3) rfl rfl ?_; (simp only [Act.at, setIfInBounds_toArray, set_cons_zero, set_cons_succ]))
            first
            | (refine tkW (i := 4) (v := ?_) rfl rfl ?_ ?_; rotate_left; (focus (intro w hSw; (try dsimp only at hSw); go_simp; first | done | with_reducible rfl)); (simp only [Act.at, setIfInBounds_toArray, set_cons_zero, set_cons_succ]))
            | (refine tkU (i := 4) rfl rfl ?_; (simp only [Act.at, setIfInBounds_toArray, set_cons_zero, set_cons_succ]))
            first
            | (refine tkW (i := 5) (v := ?_) rfl rfl ?_ ?_; rotate_left; (focus (intro w hSw; (try dsimp only at hSw); go_simp; first | done | with_reducible rfl)); (simp only [Act.at, setIfInBounds_toArray, set_cons_zero, set_cons_succ]))
            | (refine tkU (i := 5) rfl rfl ?_; (simp only [Act.at, setIfInBounds_toArray, set_cons_zero, set_cons_succ]))
            first
            | (refine tkW (i := 6) (v := ?_) rfl rfl ?_ ?_; rotate_left; (focus (intro w hSw; (try dsimp only at hSw); go_simp; first | done | with_reducible rfl)); (simp only [Act.at, setIfInBounds_toArray, set_cons_zero, set_cons_succ]))
            | (refine tkU (i := 6) rfl rfl ?_; (simp only [Act.at, setIfInBounds_toArray, set_cons_zero, set_cons_succ]))
            first
            | (refine tkW (i := 7) (v := ?_) rfl rfl ?_ ?_; rotate_left; (focus (intro w hSw; (try dsimp only at hSw); go_simp; first | done | with_reducible rfl)); (simp only [Act.at, setIfInBounds_toArray, set_cons_zero, set_cons_succ]))
            | (refine tkU (i := 7) rfl rfl ?_; (simp only [Act.at, setIfInBounds_toArray, set_cons_zero, set_cons_succ]))
            first
            | (refine tkW (i := 8) (v := ?_) rfl rfl ?_ ?_; rotate_left; (focus (intro w hSw; (try dsimp only at hSw); go_simp; first | done | with_reducible rfl)); (simp only [Act.at, setIfInBounds_toArray, set_cons_zero, set_cons_succ]))
            | (refine tkU (i := 8) rfl rfl ?_; (simp only [Act.at, setIfInBounds_toArray, set_cons_zero, set_cons_succ]))
            first
            | (refine tkW (i := 9) (v := ?_) rfl rfl ?_ ?_; rotate_left; (focus (intro w hSw; (try dsimp only at hSw); go_simp; first | done | with_reducible rfl)); (simp only [Act.at, setIfInBounds_toArray, set_cons_zero, set_cons_succ]))
            | (refine tkU (i := 9) rfl rfl ?_; (simp only [Act.at, setIfInBounds_toArray, set_cons_zero, set_cons_succ]))
            first
            | (refine tkW (i := 10) (v := ?_) rfl rfl ?_ ?_; rotate_left; (focus (intro w hSw; (try dsimp only at hSw); go_simp; first | done | with_reducible rfl)); (simp only [Act.at, setIfInBounds_toArray, set_cons_zero, set_cons_succ]))
            | (refine tkU (i := 10) rfl rfl ?_; (simp only [Act.at, setIfInBounds_toArray, set_cons_zero, set_cons_succ]))
            refine take_call (i := 11) (by kernel_rfl) rfl rfl (by rfl) (fun K hK => ?_)
            go_simp
            refine ((HSE.out wd HBD.out.1 HBD.out.2.1 HBD.out.2.2).1).mono ?_
            rintro r w6 ⟨rfl, hb6⟩
            have HBE := Lib.hid (And.intro (HBD.out.1.trans (hb6.mono HBD.out.1.size)) (And.intro (HBD.out.2.1.trans (hb6.mono HBD.out.2.1.size)) (HBD.out.2.2.trans (hb6.mono HBD.out.2.2.size))))
            have hS6 := HST.out w6 HBE.out.1 HBE.out.2.1 HBE.out.2.2
            clear hb6 HBD hS hHeld
            refine hK.out _ _ hS6 (fun hHeld => ?_)
            clear hK K
            try simp only [Act.put, setIfInBounds_toArray, set_cons_zero, set_cons_succ]
            first
            | (refine tkW (i := 12) (v := ?_) rfl rfl ?_ ?_; rotate_left; (focus (intro w hSw; (try dsimp only at hSw); go_simp; first | done | with_reducible rfl)); (simp only [Act.at, setIfInBounds_toArray, set_cons_zero, set_cons_succ]))
            | (refine tkU (i := 12) rfl rfl ?_; (simp only [Act.at, setIfInBounds_toArray, set_cons_zero, set_cons_succ]))
            first
            | (refine tkW (i := 13) (v := ?_) rfl rfl ?_ ?_; rotate_left; (focus (intro w hSw; (try dsimp only at hSw); go_simp; first | done | with_reducible rfl)); (simp only [Act.at, setIfInBounds_toArray, set_cons_zero, set_cons_succ]))
            | (refine tkU (i := 13) rfl rfl ?_; (simp only [Act.at, setIfInBounds_toArray, set_cons_zero, set_cons_succ]))
            first
            | (refine tkW (i := 14) (v := ?_) rfl rfl ?_ ?_; rotate_left; (focus (intro w hSw; (try dsimp only at hSw); go_simp; first | done | with_reducible rfl)); (simp only [Act.at, setIfInBounds_toArray, set_cons_zero, set_cons_succ]))
            | (refine tkU (i := 14) rfl rfl ?_; (simp only [Act.at, setIfInBounds_toArray, set_cons_zero, set_cons_succ]))
            first
            | (refine tkW (i := 15) (v := ?_) rfl rfl ?_ ?_; rotate_left; (focus (intro w hSw; (try dsimp only at hSw); go_simp; first | done | with_reducible rfl)); (simp only [Act.at, setIfInBounds_toArray, set_cons_zero, set_cons_succ]))
            | (refine tkU (i := 15) rfl rfl ?_; (simp only [Act.at, setIfInBounds_toArray, set_cons_zero, set_cons_succ]))
            first
            | (refine tkW (i := 16) (v := ?_) rfl rfl ?_ ?_; rotate_left; (focus (intro w hSw; (try dsimp only at hSw); go_simp; first | done | with_reducible rfl)); (simp only [Act.at, setIfInBounds_toArray, set_cons_zero, set_cons_succ]))
            | (refine tkU (i := 16) rfl rfl ?_; (simp only [Act.at, setIfInBounds_toArray, set_cons_zero, set_cons_succ]))
            first
            | (refine tkW (i := 17) (v := ?_) rfl rfl ?_ ?_; rotate_left; (focus (intro w hSw; (try dsimp only at hSw); go_simp; first | done | with_reducible rfl)); (simp only [Act.at, setIfInBounds_toArray, set_cons_zero, set_cons_succ]))
            | (refine tkU (i := 17) rfl rfl ?_; (simp only [Act.at, setIfInBounds_toArray, set_cons_zero, set_cons_succ]))
            first
            | (refine tkW (i := 18) (v := ?_) rfl rfl ?_ ?_; rotate_left; (focus (intro w hSw; (try dsimp only at hSw); go_simp; first | done | with_reducible rfl)); (simp only [Act.at, setIfInBounds_toArray, set_cons_zero, set_cons_succ]))
            | (refine tkU (i := 18) rfl rfl ?_; (simp only [Act.at, setIfInBounds_toArray, set_cons_zero, set_cons_succ]))
            refine take_call (i := 19) (by kernel_rfl) rfl rfl (by rfl) (fun K hK => ?_)
            go_simp
            refine ((HSE.out w6 HBE.out.1 HBE.out.2.1 HBE.out.2.2).2).mono ?_
            rintro r w7 ⟨rfl, hb7⟩
            have HBF := Lib.hid (And.intro (HBE.out.1.trans (hb7.mono HBE.out.1.size)) (And.intro (HBE.out.2.1.trans (hb7.mono HBE.out.2.1.size)) (HBE.out.2.2.trans (hb7.mono HBE.out.2.2.size))))
            have hS7 := HST.out w7 HBF.out.1 HBF.out.2.1 HBF.out.2.2
            clear hb7 HBE hS6 hHeld
            refine hK.out _ _ hS7 (fun hHeld => ?_)
            clear hK K
            try simp only [Act.put, setIfInBounds_toArray, set_cons_zero, set_cons_succ]
            first
            | (refine tkW (i := 20) (v := ?_) rfl rfl ?_ ?_; rotate_left; (focus (intro w hSw; (try dsimp only at hSw); go_simp; first | done | with_reducible rfl)); (simp only [Act.at, setIfInBounds_toArray, set_cons_zero, set_cons_succ]))
            | (refine tkU (i := 20) rfl rfl ?_; (simp only [Act.at, setIfInBounds_toArray, set_cons_zero, set_cons_succ]))
            first
            | (refine tkW (i := 21) (v := ?_) rfl rfl ?_ ?_; rotate_left; (focus (intro w hSw; (try dsimp only at hSw); go_simp; first | done | with_reducible rfl)); (simp only [Act.at, setIfInBounds_toArray, set_cons_zero, set_cons_succ]))
            | (refine tkU (i := 21) rfl rfl ?_; (simp only [Act.at, setIfInBounds_toArray, set_cons_zero, set_cons_succ]))
            first
            | (refine tkW (i := 22) (v := ?_) rfl rfl ?_ ?_; rotate_left; (focus (intro w hSw; (try dsimp only at hSw); go_simp; first | done | with_reducible rfl)); (simp only [Act.at, setIfInBounds_toArray, set_cons_zero, set_cons_succ]))
            | (refine tkU (i := 22) rfl rfl ?_; (simp only [Act.at, setIfInBounds_toArray, set_cons_zero, set_cons_succ]))
            first
            | (refine tkW (i := 23) (v := ?_) rfl rfl ?_ ?_; rotate_left; (focus (intro w hSw; (try dsimp only at hSw); go_simp; first | done | with_reducible rfl)); (simp only [Act.at, setIfInBounds_toArray, set_cons_zero, set_cons_succ]))
            | (refine tkU (i := 23) rfl rfl ?_; (simp only [Act.at, setIfInBounds_toArray, set_cons_zero, set_cons_succ]))
            first
            | (refine tkW (i := 24) (v := ?_) rfl rfl ?_ ?_; rotate_left; (focus (intro w hSw; (try dsimp only at hSw); go_simp; first | done | with_reducible rfl)); (simp only [Act.at, setIfInBounds_toArray, set_cons_zero, set_cons_succ]))
            | (refine tkU (i := 24) rfl rfl ?_; (simp only [Act.at, setIfInBounds_toArray, set_cons_zero, set_cons_succ]))
            first
            | (refine tkW (i := 25) (v := ?_) rfl rfl ?_ ?_; rotate_left; (focus (intro w hSw; (try dsimp only at hSw); go_simp; first | done | with_reducible rfl)); (simp only [Act.at, setIfInBounds_toArray, set_cons_zero, set_cons_succ]))
            | (refine tkU (i := 25) rfl rfl ?_; (simp only [Act.at, setIfInBounds_toArray, set_cons_zero, set_cons_succ]))
            first
            | (refine tkW (i := 26) (v := ?_) rfl rfl ?_ ?_; rotate_left; (focus (intro w hSw; (try dsimp only at hSw); go_simp; first | done | with_reducible rfl)); (simp only [Act.at, setIfInBounds_toArray, set_cons_zero, set_cons_succ]))
            | (refine tkU (i := 26) rfl rfl ?_; (simp only [Act.at, setIfInBounds_toArray, set_cons_zero, set_cons_succ]))
            first
            | (refine tkW (i := 27) (v := ?_) rfl rfl ?_ ?_; rotate_left; (focus (intro w hSw; (try dsimp only at hSw); go_simp; first | done | with_reducible rfl)); (simp only [Act.at, setIfInBounds_toArray, set_cons_zero, set_cons_succ]))
            | (refine tkU (i := 27) rfl rfl ?_; (simp only [Act.at, setIfInBounds_toArray, set_cons_zero, set_cons_succ]))
            first
            | (refine tkW (i := 28) (v := ?_) rfl rfl ?_ ?_; rotate_left; (focus (intro w hSw; (try dsimp only at hSw); go_simp; first | done | with_reducible rfl)); (simp only [Act.at, setIfInBounds_toArray, set_cons_zero, set_cons_succ]))
            | (refine tkU (i := 28) rfl rfl ?_; (simp only [Act.at, setIfInBounds_toArray, set_cons_zero, set_cons_succ]))
            first
            | (refine tkW (i := 29) (v := ?_) rfl rfl ?_ ?_; rotate_left; (focus (intro w hSw; (try dsimp only at hSw); go_simp; first | done | with_reducible rfl)); (simp only [Act.at, setIfInBounds_toArray, set_cons_zero, set_cons_succ]))
            | (refine tkU (i := 29) rfl rfl ?_; (simp only [Act.at, setIfInBounds_toArray, set_cons_zero, set_cons_succ]))
            first
            | (refine tkW (i := 30) (v := ?_) rfl rfl ?_ ?_; rotate_left; (focus (intro w hSw; (try dsimp only at hSw); go_simp; first | done | with_reducible rfl)); (simp only [Act.at, setIfInBounds_toArray, set_cons_zero, set_cons_succ]))
            | (refine tkU (i := 30) rfl rfl ?_; (simp only [Act.at, setIfInBounds_toArray, set_cons_zero, set_cons_succ]))
            first
            | (refine tkW (i := 31) (v := ?_) rfl rfl ?_ ?_; rotate_left; (focus (intro w hSw; (try dsimp only at hSw); go_simp; first | done | with_reducible rfl)); (simp only [Act.at, setIfInBounds_toArray, set_cons_zero, set_cons_succ]))
            | (refine tkU (i := 31) rfl rfl ?_; (simp only [Act.at, setIfInBounds_toArray, set_cons_zero, set_cons_succ]))
            first
            | (refine tkW (i := 32) (v := ?_) rfl rfl ?_ ?_; rotate_left; (focus (intro w hSw; (try dsimp only at hSw); go_simp; first | done | with_reducible rfl)); (simp only [Act.at, setIfInBounds_toArray, set_cons_zero, set_cons_succ]))
            | (refine tkU (i := 32) rfl rfl ?_; (simp only [Act.at, setIfInBounds_toArray, set_cons_zero, set_cons_succ]))
            first
            | (refine tkW (i := 33) (v := ?_) rfl rfl ?_ ?_; rotate_left; (focus (intro w hSw; (try dsimp only at hSw); go_simp; first | done | with_reducible rfl)); (simp only [Act.at, setIfInBounds_toArray, set_cons_zero, set_cons_succ]))
            | (refine tkU (i := 33) rfl rfl ?_; (simp only [Act.at, setIfInBounds_toArray, set_cons_zero, set_cons_succ]))
            first
            | (refine tkW (i := 34) (v := ?_) rfl rfl ?_ ?_; rotate_left; (focus (intro w hSw; (try dsimp only at hSw); go_simp; first | done | with_reducible rfl)); (simp only [Act.at, setIfInBounds_toArray, set_cons_zero, set_cons_succ]))
            | (refine tkU (i := 34) rfl rfl ?_; (simp only [Act.at, setIfInBounds_toArray, set_cons_zero, set_cons_succ]))
            refine wpAnyH_done (by kernel_rfl) ?_ _
            go_wp2_with fail
            go_meet
            exact ⟨rfl, Lib.hid ⟨HBF.out.1, HBF.out.2.1⟩⟩
          case rest =>
            obtain ⟨rfl, HBN⟩ := hcut
            go_wp2_with fail
            go_roundg n2
            case measure => omega
            case rel => exact ⟨k + 1, by have := HKN.out; omega, by go_num, HBN⟩
        · have hki : ¬ (k : Int) < (m : Int) := by omega
          clear hlt hkn
          go_wp2_with fail
          go_meet
          exact HBK
    case rest =>
      have HPT := Lib.hid (stPoints (HI.out.1.below hcut.out.1) HI.out.2.2)
      go_wp2_with fail
      refine HPT.out.mono ?_
      rintro r w2 ⟨A2, c2, rfl, hl2, hm2, hr2, hb2⟩
      have HW2 : Hid (Below w.heap.size w w2) := Lib.hid (hcut.out.1.trans (hb2.mono hcut.out.1.size))
      have HM2 := Lib.hid (And.intro hl2 hm2)
      have HR2 := Lib.hid (RowC.sub (t := []) hr2 (by simp))
      obtain ⟨l, el⟩ : ∃ l, st.Q.length = l := ⟨_, rfl⟩
      obtain ⟨⟨-, c0, -⟩, -, -, -⟩ := HC.out w2 HW2.out
      rw [el] at c0 ⊢
      have HEL := Lib.hid el
      have HWW : Hid (Below w.heap.size w w2 ∧ Below w2.heap.size w2 w2) := Lib.hid ⟨HW2.out, Below.refl _ _⟩
      clear hl2 hm2 hr2 hb2 el HPT HW HW2 hcut
      go_upto_block 2 with fail
      clear c0
      go_cut [12] (fun _ W => Hid (Below w.heap.size w W ∧ Below w2.heap.size w2 W))
      case first =>
        go_wp2_with fail
        go_loopg [12] l (fun n v12 wr => ∃ k : Nat, k + n = l ∧ v12 = .int .i64 (k : Int) ∧ Hid (Below w.heap.size w wr ∧ Below w2.heap.size w2 wr))
        case atStart => exact ⟨0, Nat.zero_add _, rfl, HWW⟩
        case round =>
          obtain ⟨k, hkn, rfl, HBK⟩ := hrel
          have hk0 : (0 : Int) ≤ (k : Int) := by omega
          by_cases hlt : k < l
          · have hki : (k : Int) < (l : Int) := by omega
            obtain ⟨n2, hn⟩ : ∃ n2, gk = n2 + 1 := ⟨gk - 1, by omega⟩
            subst hn
            have hkQ : k < st.Q.length := by rw [HEL.out]; exact hlt
            have hkc : (k : Int) < (c2 : Int) := by have := HM2.out.1; omega
            have hkc2 : (k : Int) < (pcb : Int) := by have := HB.out.2.2.2.1; omega
            have hinc : IntKind.i64.wrap ((k : Int) + 1) = (k : Int) + 1 := by have := HM2.out; rw [IntKind.wrap_i64]; omega
            obtain ⟨b, off, hA1, -, -, p0, p1⟩ := RowQt.get (HR2.out.below HBK.out.2.drew) k hkQ
            obtain ⟨⟨-, c0, -⟩, -, hpq, -⟩ := HC.out wr.drew HBK.out.1.drew
            obtain ⟨be, hA2, p2, p3⟩ := hpq k hkQ
            rw [HEL.out] at c0
            obtain ⟨x, hx⟩ : ∃ x, st.Q[k] = x := ⟨_, rfl⟩
            rw [hx] at p0 p1 p2 p3
            obtain ⟨xn, xr⟩ := x
            dsimp only at p0 p1 p2 p3
            have hS : StdQ b (off + k * 2) be (k * 2) xn xr p PB l pcb wr.drew := ⟨p0, p1, p2, p3, c0⟩
            have HBD : Hid (Below w.heap.size w wr.drew ∧ Below w2.heap.size w2 wr.drew) := Lib.hid ⟨HBK.out.1.drew, HBK.out.2.drew⟩
            have HKN := Lib.hid hkn
            have hP := fun W => run_ptneq xn xr xn xr W
            have hG := fun op o1 o2 W => run_ptguard op o1 o2 xn xr xn xr W
            rw [decide_eq_true ⟨rfl, rfl⟩] at hP
            subst hA1 hA2
            clear p0 p1 p2 p3 c0 hpq hx hkQ hkn HBK
            go_upto_region 17 with fail
            go_cut [136] (fun v136 W => v136 = .bool false ∧ Hid (Below w.heap.size w W ∧ Below w2.heap.size w2 W))
            case first =>
              refine wp_region_held_drew (S := StdQ b (off + k * 2) be (k * 2) xn xr p (some ⟨be, 0, none⟩) l pcb) (by kernel_rfl) hS (fun hHeld => ?_)
              generalize wr.drew = wd at hS hHeld HBD ⊢
              first
              | (refine tkW (i := 0) (v := ?_) rfl rfl ?_ ?_; rotate_left; (focus (intro w hSw; (try dsimp only at hSw); go_simp; first | done | with_reducible rfl)); (simp only [Act.at, setIfInBounds_toArray, set_cons_zero, set_cons_succ]))
              | (refine tkU (i := 0) rfl rfl ?_; (simp only [Act.at, setIfInBounds_toArray, set_cons_zero, set_cons_succ]))
              first
              | (refine tkW (i := 1) (v := ?_) rfl rfl ?_ ?_; rotate_left; (focus (intro w hSw; (try dsimp only at hSw); go_simp; first | done | with_reducible rfl)); (simp only [Act.at, setIfInBounds_toArray, set_cons_zero, set_cons_succ]))
              | (refine tkU (i := 1) rfl rfl ?_; (simp only [Act.at, setIfInBounds_toArray, set_cons_zero, set_cons_succ]))
              first
              | (refine tkW (i := 2) (v := ?_) rfl rfl ?_ ?_; rotate_left; (focus (intro w hSw; (try dsimp only at hSw); go_simp; first | done | with_reducible rfl)); (simp only [Act.at, setIfInBounds_toArray, set_cons_zero, set_cons_succ]))
              | (refine tkU (i := 2) rfl rfl ?_; (simp only [Act.at, setIfInBounds_toArray, set_cons_zero, set_cons_succ]))
              first
              | (refine tkW (i := 3) (v := ?_) rfl rfl ?_ ?_; rotate_left; (focus (intro w hSw; (try dsimp only at hSw); go_simp; first | done | with_reducible rfl)); (simp only [Act.at, setIfInBounds_toArray, set_cons_zero, set_cons_succ]))
              | (refine tkU (i := 3) rfl rfl ?_; (simp only [Act.at, setIfInBounds_toArray, set_cons_zero, set_cons_succ]))
              first
              | (refine tkW (i := 4) (v := ?_) rfl rfl ?_ ?_; rotate_left; (focus (intro w hSw; (try dsimp only at hSw); go_simp; first | done | with_reducible rfl)); (simp only [Act.at, setIfInBounds_toArray, set_cons_zero, set_cons_succ]))
              | (refine tkU (i := 4) rfl rfl ?_; (simp only [Act.at, setIfInBounds_toArray, set_cons_zero, set_cons_succ]))
              first
              | (refine tkW (i := 5) (v := ?_) rfl rfl ?_ ?_; rotate_left; (focus (intro w hSw; (try dsimp only at hSw); go_simp; first | done | with_reducible rfl)); (simp only [Act.at, setIfInBounds_toArray, set_cons_zero, set_cons_succ]))
              | (refine tkU (i := 5) rfl rfl ?_; (simp only [Act.at, setIfInBounds_toArray, set_cons_zero, set_cons_succ]))
              first
              | (refine tkW (i := 6) (v := ?_) rfl rfl ?_ ?_; rotate_left; (focus (intro w hSw; (try dsimp only at hSw); go_simp; first | done | with_reducible rfl)); (simp only [Act.at, setIfInBounds_toArray, set_cons_zero, set_cons_succ]))
              | (refine tkU (i := 6) rfl rfl ?_; (simp only [Act.at, setIfInBounds_toArray, set_cons_zero, set_cons_succ]))
              first
              | (refine tkW (i := 7) (v := ?_) rfl rfl ?_ ?_; rotate_left; (focus (intro w hSw; (try dsimp only at hSw); go_simp; first | done | with_reducible rfl)); (simp only [Act.at, setIfInBounds_toArray, set_cons_zero, set_cons_succ]))
              | (refine tkU (i := 7) rfl rfl ?_; (simp only [Act.at, setIfInBounds_toArray, set_cons_zero, set_cons_succ]))
              first
              | (refine tkW (i := 8) (v := ?_) rfl rfl ?_ ?_; rotate_left; (focus (intro w hSw; (try dsimp only at hSw); go_simp; first | done | with_reducible rfl)); (simp only [Act.at, setIfInBounds_toArray, set_cons_zero, set_cons_succ]))
              | (refine tkU (i := 8) rfl rfl ?_; (simp only [Act.at, setIfInBounds_toArray, set_cons_zero, set_cons_succ]))
              first
              | (refine tkW (i := 9) (v := ?_) rfl rfl ?_ ?_; rotate_left; (focus (intro w hSw; (try dsimp only at hSw); go_simp; first | done | with_reducible rfl)); (simp only [Act.at, setIfInBounds_toArray, set_cons_zero, set_cons_succ]))
              | (refine tkU (i := 9) rfl rfl ?_; (simp only [Act.at, setIfInBounds_toArray, set_cons_zero, set_cons_succ]))
              first
              | (refine tkW (i := 10) (v := ?_) rfl rfl ?_ ?_; rotate_left; (focus (intro w hSw; (try dsimp only at hSw); go_simp; first | done | with_reducible rfl)); (simp only [Act.at, setIfInBounds_toArray, set_cons_zero, set_cons_succ]))
              | (refine tkU (i := 10) rfl rfl ?_; (simp only [Act.at, setIfInBounds_toArray, set_cons_zero, set_cons_succ]))
              first
              | (refine tkW (i := 11) (v := ?_) rfl rfl ?_ ?_; rotate_left; (focus (intro w hSw; (try dsimp only at hSw); go_simp; first | done | with_reducible rfl)); (simp only [Act.at, setIfInBounds_toArray, set_cons_zero, set_cons_succ]))
              | (refine tkU (i := 11) rfl rfl ?_; (simp only [Act.at, setIfInBounds_toArray, set_cons_zero, set_cons_succ]))
              refine wpAnyH_done (by kernel_rfl) ?_ _
              go_wp2_with fail
              go_meet
              exact ⟨rfl, HBD⟩
            case rest =>
              obtain ⟨rfl, HBN⟩ := hcut
              clear hS hP hG
              go_wp2_with fail
              go_roundg n2
              case measure => omega
              case rel => exact ⟨k + 1, by have := HKN.out; omega, by go_num, HBN⟩
          · have hki : ¬ (k : Int) < (l : Int) := by omega
            clear hlt hkn
            go_wp2_with fail
            go_meet
            exact HBK
      case rest =>
        have HUS := Lib.hid (stUsed (HI.out.1.below hcut.out.1) HI.out.2.1)
        go_wp2_with fail
        refine HUS.out.mono ?_
        rintro r w4 ⟨A4, c4, U, rfl, hUr, hUp, hul, hum, hur, hb4⟩
        have HW4 : Hid (Below w.heap.size w w4 ∧ Below w4.heap.size w4 w4) := Lib.hid ⟨hcut.out.1.trans (hb4.mono hcut.out.1.size), Below.refl _ _⟩
        have HUR := Lib.hid (RowC.sub (t := []) hur (by simp))
        have hcnt : U.length = (Sta.used st.P).length := hUp.length_eq
        have hmem : ∀ e ∈ st.P, e.gone = false → e.slot ∈ U := fun e he hg => hUp.mem_iff.2 (List.mem_map.2 ⟨e, List.mem_filter.2 ⟨he, by rw [hg]; rfl⟩, rfl⟩)
        obtain ⟨u, eu⟩ : ∃ u, U.length = u := ⟨_, rfl⟩
        have hum2 : u ≤ 64 := by
          have h1 := Sta.used_le st.P
          have h2 := HI.out.2.1.few
          omega
        rw [eu] at hul hcnt ⊢
        have HU := Lib.hid (And.intro hUr (And.intro eu (And.intro hul (And.intro hcnt hum2))))
        have HME := Lib.hid hmem
        obtain ⟨⟨c0, -, -⟩, -, -, -⟩ := HC.out w4 HW4.out.1
        clear hUr hUp hul hum hur hb4 HUS hcut hcnt hmem eu hum2 HEL HM2 HR2 HWW
        go_upto_block 4 with fail
        clear c0
        go_cut [14, 15, 16, 17] (fun v14 _ _ _ W => v14 = .int .i64 (u : Int) ∧ Hid (Below w.heap.size w W ∧ Below w4.heap.size w4 W))
        case first =>
          go_wp2_with fail
          go_loopg [14, 15] m (fun n v14 v15 wr => ∃ k : Nat, k + n = m ∧ v14 = .int .i64 ((Sta.used (st.P.take k)).length : Int) ∧ v15 = .int .i64 (k : Int) ∧ Hid (Below w.heap.size w wr ∧ Below w4.heap.size w4 wr))
          case atStart => exact ⟨0, Nat.zero_add _, rfl, rfl, HW4⟩
          case round =>
            obtain ⟨k, hkn, rfl, rfl, HBK⟩ := hrel
            have hk0 : (0 : Int) ≤ (k : Int) := by omega
            obtain ⟨⟨c0, -, -⟩, hx, -, -⟩ := HC.out wr HBK.out.1
            by_cases hlt : k < m
            · have hki : (k : Int) < (m : Int) := by omega
              obtain ⟨n2, hn⟩ : ∃ n2, gk = n2 + 1 := ⟨gk - 1, by omega⟩
              subst hn
              have hkMl : k < M.length := by have := HB.out.2.1; omega
              have hkc : (k : Int) < (pca : Int) := by have := HB.out.2.2.1; omega
              have hm64 : M.length ≤ 64 := by have h1 := HI.out.2.1.few; have h2 := congrArg List.length HB.out.1; rw [List.length_map] at h2; omega
              have hinc : IntKind.i64.wrap ((k : Int) + 1) = (k : Int) + 1 := by rw [IntKind.wrap_i64]; omega
              have hul : (Sta.used (st.P.take k)).length ≤ 64 := by
                have h1 := Sta.used_le (st.P.take k)
                rw [List.length_take] at h1
                omega
              have hinc14 : IntKind.i64.wrap (((Sta.used (st.P.take k)).length : Int) + 1) = ((Sta.used (st.P.take k)).length : Int) + 1 := by rw [IntKind.wrap_i64]; omega
              have hPk : st.P[k]? = some M[k].e := by rw [← HB.out.1, List.getElem?_map, List.getElem?_eq_getElem hkMl]; rfl
              have hst : Sta.used (st.P.take (k + 1)) = Sta.used (st.P.take k) ++ (if M[k].e.gone = true then [] else [M[k].e.slot]) := by rw [take_one hPk, Sta.used_snoc]
              have HSL : Hid (M[k].e.gone = false → M[k].e.slot ∈ U) := Lib.hid (fun hg => HME.out _ (List.mem_of_getElem? hPk) hg)
              obtain ⟨be, hA, e0, e1, e2, e3, e4, e5, e6⟩ := hx k hkMl
              subst hA
              obtain ⟨x, hxe⟩ : ∃ x, M[k] = x := ⟨_, rfl⟩
              have HKM := Lib.hid (And.intro hkn (And.intro hkMl hxe))
              rw [hxe] at e0 e1 e2 e3 e4 e5 e6 hst HSL
              obtain ⟨⟨id, cls, born, slot, L, gone, H⟩, xA, xca, xB, xcb⟩ := x
              dsimp only at e0 e1 e2 e3 e4 e5 e6 hst HSL
              clear hx hxe hPk hkn
              cases gone with
              | true =>
                have HST : Hid ((Sta.used (st.P.take (k + 1))).length = (Sta.used (st.P.take k)).length) := Lib.hid (by rw [hst, if_pos rfl, List.append_nil])
                clear hst
                go_upto_block 6 with fail
                clear c0 e0 e1 e2 e3 e4 e5 e6
                go_cut [16, 17] (fun v16 _ W => v16 = .bool true ∧ Hid (Below w.heap.size w W ∧ Below w4.heap.size w4 W))
                case first =>
                  generalize wr = wo at *
                  go_wp2_with fail
                  go_loopg [16, 17] u (fun n v16 v17 wr => ∃ (j : Nat) (b : Bool), j + n = u ∧ v16 = .bool b ∧ v17 = .int .i64 (j : Int) ∧ Hid (b = (true || decide (slot ∈ U.take j))) ∧ Hid (Below w.heap.size w wr ∧ Below w4.heap.size w4 wr))
                  case atStart => exact ⟨0, true, Nat.zero_add _, rfl, rfl, Lib.hid (by simp), HBK⟩
                  case round =>
                    obtain ⟨j, b, hjn, rfl, rfl, HBJ, HBW⟩ := hrel
                    have hj0 : (0 : Int) ≤ (j : Int) := by omega
                    by_cases hjl : j < u
                    · have hji : (j : Int) < (u : Int) := by omega
                      obtain ⟨n3, hn3⟩ : ∃ n3, gk = n3 + 1 := ⟨gk - 1, by omega⟩
                      subst hn3
                      have hjU : j < U.length := by have := HU.out.2.1; omega
                      have hjc : (j : Int) < (c4 : Int) := by have := HU.out.2.2.1; omega
                      have hincj : IntKind.i64.wrap ((j : Int) + 1) = (j : Int) + 1 := by have := HU.out.2.2.2.2; rw [IntKind.wrap_i64]; omega
                      obtain ⟨bu, ou, hA4, p0⟩ := RowI.get (HUR.out.below HBW.out.2) j hjU
                      have hstep : (true || decide (slot ∈ U.take (j + 1))) = ((true || decide (slot ∈ U.take j)) || (U[j] == slot)) := by
                        rw [take_one (List.getElem?_eq_getElem hjU)]
                        simp only [List.mem_append, List.mem_singleton, Bool.decide_or, Bool.or_assoc]
                        congr 2
                        rw [Bool.eq_iff_iff, decide_eq_true_iff, beq_iff_eq]
                        exact eq_comm
                      have HSTP := Lib.hid hstep
                      have HJN := Lib.hid hjn
                      subst hA4
                      generalize U[j]'hjU = uj at p0 HSTP
                      clear hstep hjn hjU
                      obtain ⟨⟨c0, -, -⟩, hx, -, -⟩ := HC.out wr HBW.out.1
                      obtain ⟨be2, hA2, -, -, -, d3, -, -, -⟩ := hx k HKM.out.2.1
                      rw [HKM.out.2.2] at d3
                      injection hA2 with hA2
                      injection hA2 with hA2
                      subst hA2
                      dsimp only at d3
                      clear hx
                      cases b with
                      | true =>
                        have HN : Hid (true = (true || decide (slot ∈ U.take (j + 1)))) := Lib.hid (by rw [HSTP.out, ← HBJ.out]; rfl)
                        have HBN : ∀ q : Nat, Hid (Below w.heap.size w (wr.drewN q) ∧ Below w4.heap.size w4 (wr.drewN q)) := fun q => Lib.hid ⟨evDrew HBW.out.1 q, evDrew HBW.out.2 q⟩
                        go_upto_region 28 with fail
                        go_quiet (fail)
                        clear c0 p0 d3
                        go_wp2_with fail
                        go_roundg n3
                        case measure => omega
                        case rel => exact ⟨j + 1, true, by have := HJN.out; omega, rfl, by go_num, HN, HBN _⟩
                      | false =>
                        have HBN : ∀ q : Nat, Hid (Below w.heap.size w (wr.drewN q) ∧ Below w4.heap.size w4 (wr.drewN q)) := fun q => Lib.hid ⟨evDrew HBW.out.1 q, evDrew HBW.out.2 q⟩
                        by_cases he : uj = slot
                        · have hbe : (uj == slot) = true := beq_iff_eq.2 he
                          have HN : Hid (true = (true || decide (slot ∈ U.take (j + 1)))) := Lib.hid (by rw [HSTP.out, hbe, Bool.or_true])
                          clear he
                          go_upto_region 28 with fail
                          go_quiet (fail)
                          clear c0 p0 d3
                          go_wp2_with fail
                          go_roundg n3
                          case measure => omega
                          case rel => exact ⟨j + 1, true, by have := HJN.out; omega, by first | rfl | (simp only [hbe]), by go_num, HN, HBN _⟩
                        · have hbe : (uj == slot) = false := beq_eq_false_iff_ne.2 he
                          have HN : Hid (false = (true || decide (slot ∈ U.take (j + 1)))) := Lib.hid (by rw [HSTP.out, hbe, Bool.or_false]; exact HBJ.out)
                          clear he
                          go_upto_region 28 with fail
                          go_quiet (fail)
                          clear c0 p0 d3
                          go_wp2_with fail
                          go_roundg n3
                          case measure => omega
                          case rel => exact ⟨j + 1, false, by have := HJN.out; omega, by first | rfl | (simp only [hbe]), by go_num, HN, HBN _⟩
                    · have hji : ¬ (j : Int) < (u : Int) := by omega
                      have hb : b = true := by
                        have h1 := HBJ.out
                        rw [List.take_of_length_le (by have := HU.out.2.1; omega)] at h1
                        rw [h1]
                        rfl
                      subst hb
                      clear hjn hjl
                      go_wp2_with fail
                      go_meet
                      exact ⟨rfl, HBW⟩
                case rest =>
                  obtain ⟨rfl, HBC⟩ := hcut
                  obtain ⟨⟨c0, -, -⟩, hx, -, -⟩ := HC.out wc HBC.out.1
                  obtain ⟨be2, hA2, -, -, -, -, -, d5, -⟩ := hx k HKM.out.2.1
                  rw [HKM.out.2.2] at d5
                  injection hA2 with hA2
                  injection hA2 with hA2
                  subst hA2
                  dsimp only at d5
                  clear hx
                  go_wp2_with fail
                  go_roundg n2
                  case measure => omega
                  case rel => exact ⟨k + 1, by have := HKM.out.1; omega, by rw [HST.out], by go_num, HBC⟩
              | false =>
                have HST : Hid ((Sta.used (st.P.take (k + 1))).length = (Sta.used (st.P.take k)).length + 1) := Lib.hid (by rw [hst, if_neg (by decide), List.length_append]; rfl)
                clear hst
                go_upto_block 6 with fail
                clear c0 e0 e1 e2 e3 e4 e5 e6
                go_cut [16, 17] (fun v16 _ W => v16 = .bool true ∧ Hid (Below w.heap.size w W ∧ Below w4.heap.size w4 W))
                case first =>
                  generalize wr = wo at *
                  go_wp2_with fail
                  go_loopg [16, 17] u (fun n v16 v17 wr => ∃ (j : Nat) (b : Bool), j + n = u ∧ v16 = .bool b ∧ v17 = .int .i64 (j : Int) ∧ Hid (b = (false || decide (slot ∈ U.take j))) ∧ Hid (Below w.heap.size w wr ∧ Below w4.heap.size w4 wr))
                  case atStart => exact ⟨0, false, Nat.zero_add _, rfl, rfl, Lib.hid (by simp), HBK⟩
                  case round =>
                    obtain ⟨j, b, hjn, rfl, rfl, HBJ, HBW⟩ := hrel
                    have hj0 : (0 : Int) ≤ (j : Int) := by omega
                    by_cases hjl : j < u
                    · have hji : (j : Int) < (u : Int) := by omega
                      obtain ⟨n3, hn3⟩ : ∃ n3, gk = n3 + 1 := ⟨gk - 1, by omega⟩
                      subst hn3
                      have hjU : j < U.length := by have := HU.out.2.1; omega
                      have hjc : (j : Int) < (c4 : Int) := by have := HU.out.2.2.1; omega
                      have hincj : IntKind.i64.wrap ((j : Int) + 1) = (j : Int) + 1 := by have := HU.out.2.2.2.2; rw [IntKind.wrap_i64]; omega
                      obtain ⟨bu, ou, hA4, p0⟩ := RowI.get (HUR.out.below HBW.out.2) j hjU
                      have hstep : (false || decide (slot ∈ U.take (j + 1))) = ((false || decide (slot ∈ U.take j)) || (U[j] == slot)) := by
                        rw [take_one (List.getElem?_eq_getElem hjU)]
                        simp only [List.mem_append, List.mem_singleton, Bool.decide_or, Bool.or_assoc]
                        congr 2
                        rw [Bool.eq_iff_iff, decide_eq_true_iff, beq_iff_eq]
                        exact eq_comm
                      have HSTP := Lib.hid hstep
                      have HJN := Lib.hid hjn
                      subst hA4
                      generalize U[j]'hjU = uj at p0 HSTP
                      clear hstep hjn hjU
                      obtain ⟨⟨c0, -, -⟩, hx, -, -⟩ := HC.out wr HBW.out.1
                      obtain ⟨be2, hA2, -, -, -, d3, -, -, -⟩ := hx k HKM.out.2.1
                      rw [HKM.out.2.2] at d3
                      injection hA2 with hA2
                      injection hA2 with hA2
                      subst hA2
                      dsimp only at d3
                      clear hx
                      cases b with
                      | true =>
                        have HN : Hid (true = (false || decide (slot ∈ U.take (j + 1)))) := Lib.hid (by rw [HSTP.out, ← HBJ.out]; rfl)
                        have HBN : ∀ q : Nat, Hid (Below w.heap.size w (wr.drewN q) ∧ Below w4.heap.size w4 (wr.drewN q)) := fun q => Lib.hid ⟨evDrew HBW.out.1 q, evDrew HBW.out.2 q⟩
                        go_upto_region 28 with fail
                        go_quiet (fail)
                        clear c0 p0 d3
                        go_wp2_with fail
                        go_roundg n3
                        case measure => omega
                        case rel => exact ⟨j + 1, true, by have := HJN.out; omega, rfl, by go_num, HN, HBN _⟩
                      | false =>
                        have HBN : ∀ q : Nat, Hid (Below w.heap.size w (wr.drewN q) ∧ Below w4.heap.size w4 (wr.drewN q)) := fun q => Lib.hid ⟨evDrew HBW.out.1 q, evDrew HBW.out.2 q⟩
                        by_cases he : uj = slot
                        · have hbe : (uj == slot) = true := beq_iff_eq.2 he
                          have HN : Hid (true = (false || decide (slot ∈ U.take (j + 1)))) := Lib.hid (by rw [HSTP.out, hbe, Bool.or_true])
                          clear he
                          go_upto_region 28 with fail
                          go_quiet (fail)
                          clear c0 p0 d3
                          go_wp2_with fail
                          go_roundg n3
                          case measure => omega
                          case rel => exact ⟨j + 1, true, by have := HJN.out; omega, by first | rfl | (simp only [hbe]), by go_num, HN, HBN _⟩
                        · have hbe : (uj == slot) = false := beq_eq_false_iff_ne.2 he
                          have HN : Hid (false = (false || decide (slot ∈ U.take (j + 1)))) := Lib.hid (by rw [HSTP.out, hbe, Bool.or_false]; exact HBJ.out)
                          clear he
                          go_upto_region 28 with fail
                          go_quiet (fail)
                          clear c0 p0 d3
                          go_wp2_with fail
                          go_roundg n3
                          case measure => omega
                          case rel => exact ⟨j + 1, false, by have := HJN.out; omega, by first | rfl | (simp only [hbe]), by go_num, HN, HBN _⟩
                    · have hji : ¬ (j : Int) < (u : Int) := by omega
                      have hb : b = true := by
                        have h1 := HBJ.out
                        rw [List.take_of_length_le (by have := HU.out.2.1; omega)] at h1
                        rw [h1]
                        rw [Bool.false_or, decide_eq_true_iff]; exact HSL.out trivial
                      subst hb
                      clear hjn hjl
                      go_wp2_with fail
                      go_meet
                      exact ⟨rfl, HBW⟩
                case rest =>
                  obtain ⟨rfl, HBC⟩ := hcut
                  obtain ⟨⟨c0, -, -⟩, hx, -, -⟩ := HC.out wc HBC.out.1
                  obtain ⟨be2, hA2, -, -, -, -, -, d5, -⟩ := hx k HKM.out.2.1
                  rw [HKM.out.2.2] at d5
                  injection hA2 with hA2
                  injection hA2 with hA2
                  subst hA2
                  dsimp only at d5
                  clear hx
                  go_wp2_with fail
                  go_roundg n2
                  case measure => omega
                  case rel => exact ⟨k + 1, by have := HKM.out.1; omega, by rw [HST.out]; go_num, by go_num, HBC⟩
            · have hki : ¬ (k : Int) < (m : Int) := by omega
              obtain rfl : k = m := by omega
              have hcnt : (Sta.used (st.P.take k)).length = u := by
                rw [List.take_of_length_le (by have h1 := congrArg List.length HB.out.1; rw [List.length_map] at h1; have := HB.out.2.1; omega)]
                exact HU.out.2.2.2.1.symm
              clear hx hlt hkn
              go_wp2_with fail
              go_meet
              exact ⟨rfl, HBK⟩
        case rest =>
          obtain ⟨rfl, HBC⟩ := hcut
          clear HME HW4
          go_upto_block 8 with fail
          go_cut [18] (fun _ W => Hid (Below w.heap.size w W ∧ Below w4.heap.size w4 W))
          case first =>
            generalize wc = wo at *
            go_wp2_with fail
            go_loopg [18] u (fun n v18 wr => ∃ k : Nat, k + n = u + 1 ∧ 1 ≤ k ∧ v18 = .int .i64 (k : Int) ∧ Hid (Below w.heap.size w wr ∧ Below w4.heap.size w4 wr))
            case atStart => exact ⟨1, by omega, Nat.le_refl _, rfl, HBC⟩
            case round =>
              obtain ⟨k, hkn, hk1, rfl, HBW⟩ := hrel
              by_cases hlt : k < u
              · have hki : (k : Int) < (u : Int) := by omega
                obtain ⟨n3, hn3⟩ : ∃ n3, gk = n3 + 1 := ⟨gk - 1, by omega⟩
                subst hn3
                obtain ⟨j, hj⟩ : ∃ j, k = j + 1 := ⟨k - 1, by omega⟩
                have hk0 : (0 : Int) ≤ (k : Int) := by omega
                have hj0 : (0 : Int) ≤ (j : Int) := by omega
                have hji : (j : Int) < (u : Int) := by omega
                have hkU : k < U.length := by have := HU.out.2.1; omega
                have hjU : j < U.length := by omega
                have hkc : (k : Int) < (c4 : Int) := by have := HU.out.2.2.1; omega
                have hjc : (j : Int) < (c4 : Int) := by have := HU.out.2.2.1; omega
                have hinck : IntKind.i64.wrap ((k : Int) + 1) = (k : Int) + 1 := by have := HU.out.2.2.2.2; rw [IntKind.wrap_i64]; omega
                have hsub : IntKind.i64.wrap ((k : Int) - 1) = (j : Int) := by have := HU.out.2.2.2.2; rw [IntKind.wrap_i64]; omega
                obtain ⟨bu, ou, hA4, p0⟩ := RowI.get (HUR.out.below HBW.out.2) k hkU
                obtain ⟨bu2, ou2, hA5, p1⟩ := RowI.get (HUR.out.below HBW.out.2) j hjU
                rw [hA4] at hA5
                injection hA5 with hA5
                injection hA5 with e1 e2
                subst e1 e2 hA4
                have hrise : ¬ U[k] ≤ U[j] := by
                  have := List.pairwise_iff_getElem.1 HU.out.1 j k hjU hkU (by omega)
                  omega
                have HKN := Lib.hid (And.intro hkn hk1)
                have HJ := Lib.hid hj
                generalize U[k]'hkU = uk at p0 hrise
                generalize U[j]'hjU = uj at p1 hrise
                clear hkn hk1 hj hkU hjU
                have HBN : ∀ q : Nat, Hid (Below w.heap.size w (wr.drewN q) ∧ Below w4.heap.size w4 (wr.drewN q)) := fun q => Lib.hid ⟨evDrew HBW.out.1 q, evDrew HBW.out.2 q⟩
                go_upto_region 36 with fail
                go_quiet (fail)
                clear p0 p1
                go_wp2_with fail
                go_roundg n3
                case measure => omega
                case rel => exact ⟨k + 1, by have := HKN.out; omega, by omega, by go_num, HBN _⟩
              · have hki : ¬ (k : Int) < (u : Int) := by omega
                clear hlt hkn hk1
                go_wp2_with fail
                go_meet
                exact HBW
          case rest =>
            have HBC2 := Lib.hid hcut.out.1
            clear hcut HBC
            have HEN := Lib.hid (stEntry_no (HI.out.1.below HBC2.out) HI.out.2.1 (m : Int) (Or.inr (by have h1 := congrArg List.length HB.out.1; rw [List.length_map] at h1; have := HB.out.2.1; omega)))
            go_wp2_with fail
            refine HEN.out.mono ?_
            rintro r w5 ⟨⟨⟨xid, xcls, xborn, xslot, xL, xgone, xH⟩, xA, xca, xB, xcb⟩, rfl, hb5⟩
            dsimp only [EntX.val]
            have HB5 := Lib.hid (HBC2.out.trans (hb5.mono HBC2.out.size))
            have hba := stBox w5 (.cells #[.string (S xid), .int .i64 xcls, .int .i64 xborn, .int .i64 xslot, .slice xA xL.length xca, .bool xgone, .slice xB xH.length xcb] 33)
            have HB6 := Lib.hid (HB5.out.trans (hba.mono HB5.out.size))
            have HSQ := Lib.hid (stSeq_no (HI.out.1.below HB6.out) HI.out.2.1 [110, 111, 32, 115, 117, 99, 104, 32, 112, 97, 112, 101, 114] (by decide) (fun e he h => by
              have h1 := (Ev.entR_iff.1 (HI.out.2.1.right e he)).1
              rw [h] at h1
              exact absurd h1 (by decide)))
            have HSQ2 : Hid (Calls Try.prog 27 #[.pointer (some ⟨q, 0, none⟩), .string ⟨#[110, 111, 32, 115, 117, 99, 104, 32, 112, 97, 112, 101, 114]⟩] (w5.alloc (.cells #[.string (S xid), .int .i64 xcls, .int .i64 xborn, .int .i64 xslot, .slice xA xL.length xca, .bool xgone, .slice xB xH.length xcb] 33)) fun r w' => ∃ i : Int, r = .returned (.tuple #[.int .i64 i, .int .i64 7]) ∧ Below (w5.alloc (.cells #[.string (S xid), .int .i64 xcls, .int .i64 xborn, .int .i64 xslot, .slice xA xL.length xca, .bool xgone, .slice xB xH.length xcb] 33)).heap.size (w5.alloc (.cells #[.string (S xid), .int .i64 xcls, .int .i64 xborn, .int .i64 xslot, .slice xA xL.length xca, .bool xgone, .slice xB xH.length xcb] 33)) w') := HSQ
            clear hb5 HEN HBC2 hba HSQ HB5
            go_wp2_with fail
            refine HSQ2.out.mono ?_
            rintro r w7 ⟨i7, rfl, hb7⟩
            have HB7 := Lib.hid (HB6.out.trans (hb7.mono HB6.out.size))
            clear hb7 HSQ2 HB6
            go_wp2_with fail
            go_ret
            exact ⟨rfl, HB7.out⟩
end Go.Proofs.Ytojemaaljjibiaa
