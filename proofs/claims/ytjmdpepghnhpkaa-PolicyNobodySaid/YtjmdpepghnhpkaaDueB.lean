/-
  The fifteenth layer's statements' own put.
-/
import Derived.Test.YtjmdpepghnhpkaaDueA
import Derived.Test.YtjmdpepghnhpkaaTake
import Derived.Deep.RegionHeld3
import Derived.Deep.DeepCutAuto
import Derived.Deep.CutBlock
import Derived.Deep.AppendLies
namespace Go.Proofs.Ytjmdpepghnhpkaa
open Go.RowKit
set_option linter.unusedVariables false

namespace Du
theorem put_none {d : Du} : ∀ {l : List Du}, (∀ x ∈ l, lt d x = false) → put l d = l ++ [d]
  | [], _ => rfl
  | x :: r, h => by
    unfold put
    rw [if_neg (by rw [h x (List.mem_cons_self ..)]; decide), put_none (fun y hy => h y (List.mem_cons_of_mem _ hy))]
    rfl
theorem put_hit {d y : Du} : ∀ {l : List Du}, (∀ x ∈ l, lt d x = false) → lt d y = true → put (l ++ [y]) d = l ++ [d] ++ [y]
  | [], _, h => by
    show (if lt d y = true then _ else _) = _
    rw [if_pos h]; rfl
  | x :: r, h, hy => by
    show (if lt d x = true then _ else x :: put (r ++ [y]) d) = _
    rw [if_neg (by rw [h x (List.mem_cons_self ..)]; decide), put_hit (fun z hz => h z (List.mem_cons_of_mem _ hz)) hy]
    rfl
theorem put_past {d y : Du} : ∀ {l : List Du}, (∃ x ∈ l, lt d x = true) → put (l ++ [y]) d = put l d ++ [y]
  | [], h => by obtain ⟨x, hx, _⟩ := h; cases hx
  | x :: r, h => by
    show (if lt d x = true then _ else x :: put (r ++ [y]) d) = (if lt d x = true then _ else x :: put r d) ++ [y]
    by_cases hx : lt d x = true
    · rw [if_pos hx, if_pos hx]; rfl
    · rw [if_neg hx, if_neg hx, put_past (by
        obtain ⟨z, hz, hl⟩ := h
        rcases List.mem_cons.1 hz with rfl | hz
        · exact absurd hl hx
        · exact ⟨z, hz, hl⟩)]
      rfl
/-- Where the loop stands behind k of them: is the new one laid, and what is laid. -/
def PutK (L : List Du) (d : Du) (k : Nat) (done : Bool) (out : List Du) : Prop :=
  (done = false → out = L.take k ∧ ∀ x ∈ L.take k, lt d x = false) ∧ (done = true → out = put (L.take k) d ∧ ∃ x ∈ L.take k, lt d x = true)
theorem putK_zero (L : List Du) (d : Du) : PutK L d 0 false [] := ⟨fun _ => ⟨by simp, by simp⟩, fun h => (by cases h)⟩
theorem putK_past {L : List Du} {d : Du} {k : Nat} {out : List Du} (hk : k < L.length) (h : PutK L d k true out) : PutK L d (k + 1) true (out ++ [L[k]]) := by
  obtain ⟨h1, x, hx, h2⟩ := h.2 rfl
  refine ⟨fun h => (by cases h), fun _ => ?_⟩
  rw [List.take_succ_eq_append_getElem hk]
  exact ⟨by rw [put_past ⟨x, hx, h2⟩, h1], x, List.mem_append_left _ hx, h2⟩
theorem putK_hit {L : List Du} {d : Du} {k : Nat} {out : List Du} (hk : k < L.length) (h : PutK L d k false out) (hl : lt d L[k] = true) : PutK L d (k + 1) true (out ++ [d] ++ [L[k]]) := by
  obtain ⟨h1, h2⟩ := h.1 rfl
  refine ⟨fun h => (by cases h), fun _ => ?_⟩
  rw [List.take_succ_eq_append_getElem hk]
  exact ⟨by rw [put_hit h2 hl, h1], L[k], List.mem_append_right _ (List.mem_singleton.2 rfl), hl⟩
theorem putK_miss {L : List Du} {d : Du} {k : Nat} {out : List Du} (hk : k < L.length) (h : PutK L d k false out) (hl : lt d L[k] = false) : PutK L d (k + 1) false (out ++ [L[k]]) := by
  obtain ⟨h1, h2⟩ := h.1 rfl
  refine ⟨fun _ => ?_, fun h => (by cases h)⟩
  rw [List.take_succ_eq_append_getElem hk]
  refine ⟨by rw [h1], fun x hx => ?_⟩
  rcases List.mem_append.1 hx with hx | hx
  · exact h2 x hx
  · rw [List.mem_singleton.1 hx]; exact hl
theorem putK_len {L : List Du} {d : Du} {k : Nat} {done : Bool} {out : List Du} (hk : k ≤ L.length) (h : PutK L d k done out) : out.length ≤ k + 1 := by
  cases done with
  | false => rw [(h.1 rfl).1, List.length_take]; omega
  | true => rw [(h.2 rfl).1, (put_perm d _).length_eq, List.length_cons, List.length_take]; omega
theorem putK_all {L : List Du} {d : Du} {k : Nat} {out : List Du} (hk : k = L.length) (h : PutK L d k true out) : out = put L d := by
  have := (h.2 rfl).1
  rwa [List.take_of_length_le (by omega)] at this
theorem putK_none {L : List Du} {d : Du} {k : Nat} {out : List Du} (hk : k = L.length) (h : PutK L d k false out) : out ++ [d] = put L d := by
  obtain ⟨h1, h2⟩ := h.1 rfl
  rw [List.take_of_length_le (by omega)] at h1 h2
  rw [put_none h2, h1]
end Du
theorem duInfo : (Try.prog.info? 34).map (fun i => (i.zero, i.size, i.bytes)) = some (some (.agg #[.int .i64 0, .int .i64 0]), 2, 16) := by kernel_rfl
theorem duMade (w : World) (s d : Int) : ∀ (j : Nat) (u : Value), (⟨s, d⟩ : Du).cs[j]? = some u → (w.alloc (.cells #[.int .i64 s, .int .i64 d] 34)).cell? ((⟨w.heap.size, 0, none⟩ : Addr).add j) = some u := by
  intro j u hu
  rw [add_flat', Nat.zero_add, (Has.made w 34 #[.int .i64 s, .int .i64 d]).cell j]
  rw [← hu]
  unfold Du.cs
  exact List.getElem?_toArray ..
theorem duGrown {B : Nat} {w w3 w5 : World} {row : Option Nat} (h : Below B w w3) (hg : w3.grownBy w5 row) (hB : B ≤ w3.heap.size) (hr : ∀ k, row = some k → B ≤ k) : Below B w w5 :=
  ⟨hg.os.trans h.os, hg.tape.trans h.tape, hg.output.trans h.output, Nat.le_trans h.size hg.size, fun i hi => (hg.block i (Nat.lt_of_lt_of_le hi hB) (fun e => by have := hr i e.symm; omega)).trans (h.block i hi)⟩
/-- What put's loop reads. -/
abbrev PutS (b3 b o : Nat) (d x : Du) (W : World) : Prop := W.cell? ⟨b3, 0, none⟩ = some (.int .i64 d.seq) ∧ W.cell? ⟨b3, 1, none⟩ = some (.int .i64 d.due) ∧ W.cell? ⟨b, o, none⟩ = some (.int .i64 x.seq) ∧ W.cell? ⟨b, o + 1, none⟩ = some (.int .i64 x.due)
set_option maxRecDepth 100000 in
set_option maxHeartbeats 8000000 in
theorem dput_any {w : World} {L : List Du} {A : Option Addr} {cap : Nat} (hr : RowD w [] A L) (hl : L.length ≤ cap) (hc : cap ≤ 9223372036854775807) (hn : L.length ≤ 1000000) (d : Du) :
    Calls Try.prog 11 #[.slice A L.length cap, .agg #[.int .i64 d.seq, .int .i64 d.due]] w fun r w' => ∃ v, r = .returned v ∧ w'.ownsRow w.heap.size 34 2 v (L.length + 1) (dvs (Du.put L d)) ∧ Below w.heap.size w w' := by
  have HPL : Hid ((Du.put L d).length = L.length + 1) := Lib.hid (by rw [(Du.put_perm d L).length_eq, List.length_cons])
  have hb0 : Below w.heap.size w (w.alloc (.cells #[.int .i64 d.seq, .int .i64 d.due] 34)) := (Below.refl _ w).alloc (Nat.le_refl _) _
  have hh := Has.made w 34 #[.int .i64 d.seq, .int .i64 d.due]
  have hsz : (w.alloc (.cells #[.int .i64 d.seq, .int .i64 d.due] 34)).heap.size = w.heap.size + 1 := asize _ _
  have HR := Lib.hid (RowC.below hr hb0)
  obtain ⟨ds, dd⟩ := d
  dsimp only at *
  obtain ⟨i0, hi0, hz0, hz1, hz2⟩ := info_parts duInfo
  have HI := Lib.hid (And.intro hi0 (And.intro hz0 (And.intro hz1 hz2)))
  clear hi0 hz0 hz1 hz2 hr
  go_enter Try.func11, Try.ntmps11
  go_upto_region 1 with fail
  generalize w.alloc (.cells #[.int .i64 ds, .int .i64 dd] 34) = W0 at hb0 hh hsz HR ⊢
  have HB0 := Lib.hid hb0
  obtain ⟨b0, hq0⟩ : ∃ b0, w.heap.size = b0 := ⟨_, rfl⟩
  rw [hq0] at hh hsz ⊢
  have HH := Lib.hid hh
  have HQ := Lib.hid hq0
  clear hb0 hh hq0
  go_wp2_with fail
  go_loopg [5, 6, 7] L.length (fun n v5 v6 v7 wr => ∃ (k : Nat) (done : Bool) (out : List Du), k + n = L.length ∧ v7 = .int .i64 (k : Int) ∧ v6 = .bool done ∧ Hid (Du.PutK L ⟨ds, dd⟩ k done out) ∧ wr.ownsRow W0.heap.size 34 2 v5 out.length (dvs out) ∧ Below W0.heap.size W0 wr)
  case atStart => exact ⟨0, false, [], Nat.zero_add _, rfl, rfl, Lib.hid (Du.putK_zero _ _), World.ownsRow_nil _ _ _ _, Below.refl _ _⟩
  case round =>
    obtain ⟨k, done, out, hkn, rfl, rfl, HK, hown, hbk⟩ := hrel
    have holen := Du.putK_len (by omega) HK.out
    have c0 : wr.cell? ⟨b0, 0, none⟩ = some (.int .i64 ds) := (HH.out.below hbk (by omega)).cell 0
    have c1 : wr.cell? ⟨b0, 1, none⟩ = some (.int .i64 dd) := (HH.out.below hbk (by omega)).cell 1
    have HSZ := Lib.hid hbk.size
    cases gk with
    | zero =>
      have hlt : ¬ (k : Int) < (L.length : Int) := by omega
      cases done with
      | true =>
        have HF := Lib.hid (Du.putK_all (by omega) HK.out)
        rw [HF.out] at hown
        have hpl := HPL.out
        rw [hpl] at hown
        have HW := Lib.hid hown
        clear hown HK hkn c0 c1 holen hpl
        go_wp2_with fail
        go_ret
        refine ⟨_, rfl, own_low HW.out (by have := HQ.out; omega), HB0.out.trans (hbk.mono HB0.out.size)⟩
      | false =>
        have HF := Lib.hid (Du.putK_none (by omega) HK.out)
        have HO2 := Lib.hid (hown.alloc (.cells #[.int .i64 ds, .int .i64 dd] 34))
        have HM := Lib.hid (duMade wr ds dd)
        have hol : out.length ≤ 1000001 := by omega
        clear HK hkn holen
        go_wp2_with (at_builtin; refine wpList_append_own _ rfl (.tmp 37) (.tmp 39) 30 rfl W0.heap.size 34 i0 (.agg #[.int .i64 0, .int .i64 0]) 2 16 Try.underlying30 HI.out.1 HI.out.2.1 HI.out.2.2.1 HI.out.2.2.2 rfl (by decide) u5 out.length (dvs out) rfl HO2.out ⟨wr.heap.size, 0, none⟩ 1 1 (⟨ds, dd⟩ : Du).cs rfl rfl HM.out (by intro u hu; simp [Du.cs] at hu; rcases hu with rfl | rfl <;> rfl) (by simp only [maxLen]; omega) (by omega) (by have := HSZ.out; simp; omega) ?_; intro v8 w3 hown3 hg3 hnil3)
        have hg3' := grown_alloc _ hg3
        rw [dvs_snoc, HF.out] at hown3
        have hl3 : out.length + 1 = L.length + 1 := by
          have h1 := HPL.out
          rw [← HF.out, List.length_append] at h1
          exact h1
        rw [hl3] at hown3
        have HREL := Lib.hid (And.intro hown3 (duGrown hbk hg3' HSZ.out (fun q hq => (hown.lt q hq).1)))
        clear hown3 hg3 hnil3 hg3' hown hbk c0 c1 hl3
        go_wp2_with fail
        go_ret
        refine ⟨_, rfl, own_low HREL.out.1 (by have := HQ.out; omega), HB0.out.trans (HREL.out.2.mono HB0.out.size)⟩
    | succ n =>
      have hlt : (k : Int) < (L.length : Int) := by omega
      have hk : k < L.length := by omega
      have hinc : IntKind.i64.wrap ((k : Int) + 1) = (k : Int) + 1 := by rw [IntKind.wrap_i64]; omega
      have hkc : (k : Int) < (cap : Int) := by omega
      have hk0 : (0 : Int) ≤ (k : Int) := by omega
      obtain ⟨b, off, hA, hbW, -, p0', p1'⟩ := RowD.get HR.out k hk
      have p0 := (hbk.cell (p := ⟨b, off + k * 2, none⟩) hbW).trans p0'
      have p1 := (hbk.cell (p := ⟨b, off + k * 2 + 1, none⟩) hbW).trans p1'
      have hbl : b < wr.heap.size := Nat.lt_of_lt_of_le hbW hbk.size
      clear p0' p1'
      subst hA
      have HPAST := Lib.hid (fun (h : Du.PutK L ⟨ds, dd⟩ k true out) => Du.putK_past hk h)
      have HHIT := Lib.hid (fun (h : Du.PutK L ⟨ds, dd⟩ k false out) hl => Du.putK_hit hk h hl)
      have HMISS := Lib.hid (fun (h : Du.PutK L ⟨ds, dd⟩ k false out) hl => Du.putK_miss hk h hl)
      generalize L[k]'hk = x at p0 p1 HPAST HHIT HMISS
      obtain ⟨xs, xd⟩ := x
      dsimp only at p0 p1
      have HN := Lib.hid hkn
      clear hkn
      have hb0w : b0 < wr.heap.size := by have := HSZ.out; omega
      have hol : out.length ≤ 1000001 := by omega
      go_upto_region 6 with fail
      have hx : PutS b0 b (off + k * 2) ⟨ds, dd⟩ ⟨xs, xd⟩ wr.drew := ⟨c0, c1, p0, p1⟩
      have hown0 : wr.drew.ownsRow W0.heap.size 34 2 u5 out.length (dvs out) := own_mv hown (Mv.of_below (Below.refl wr.heap.size wr).drew []) (by simp)
      have hbk0 : Below W0.heap.size W0 wr.drew := hbk.drew
      have hbl0 : b < wr.drew.heap.size ∧ b0 < wr.drew.heap.size := ⟨hbl, hb0w⟩
      have HPT := Lib.hid p0
      clear hown hbk hbl hb0w c0 c1 p0 p1 HSZ holen HPT
      cases done with
      | true =>
        have HNEW := Lib.hid (HPAST.out HK.out)
        clear HPAST HHIT HMISS HK
        refine wp_region_held_drew (S := PutS b0 b (off + k * 2) ⟨ds, dd⟩ ⟨xs, xd⟩) (by kernel_rfl) hx (fun hHeld => ?_)
        generalize wr.drew = w1 at hx hHeld hown0 hbk0 hbl0 ⊢
        first
        | (refine take_wanted (i := 0) (v := ?_) rfl rfl (by kernel_rfl) (by kernel_rfl) (by kernel_rfl) (fun _ _ _ h => h) (by rfl) (by assumption) ?_ ?_; rotate_left; (focus (intro w hSw; (try dsimp only at hSw); go_simp; first | done | with_reducible rfl)); (simp only [Act.at, List.setIfInBounds_toArray, List.set_cons_zero, List.set_cons_succ]))
        | (refine take_unwanted (i := 0) rfl rfl (by kernel_rfl) (by kernel_rfl) (by kernel_rfl) (fun _ _ _ h => h) (by rfl) (by assumption) ?_; (simp only [Act.at, List.setIfInBounds_toArray, List.set_cons_zero, List.set_cons_succ]))
        first
        | (refine take_wanted (i := 1) (v := ?_) rfl rfl (by kernel_rfl) (by kernel_rfl) (by kernel_rfl) (fun _ _ _ h => h) (by rfl) (by assumption) ?_ ?_; rotate_left; (focus (intro w hSw; (try dsimp only at hSw); go_simp; first | done | with_reducible rfl)); (simp only [Act.at, List.setIfInBounds_toArray, List.set_cons_zero, List.set_cons_succ]))
        | (refine take_unwanted (i := 1) rfl rfl (by kernel_rfl) (by kernel_rfl) (by kernel_rfl) (fun _ _ _ h => h) (by rfl) (by assumption) ?_; (simp only [Act.at, List.setIfInBounds_toArray, List.set_cons_zero, List.set_cons_succ]))
        first
        | (refine take_wanted (i := 2) (v := ?_) rfl rfl (by kernel_rfl) (by kernel_rfl) (by kernel_rfl) (fun _ _ _ h => h) (by rfl) (by assumption) ?_ ?_; rotate_left; (focus (intro w hSw; (try dsimp only at hSw); go_simp; first | done | with_reducible rfl)); (simp only [Act.at, List.setIfInBounds_toArray, List.set_cons_zero, List.set_cons_succ]))
        | (refine take_unwanted (i := 2) rfl rfl (by kernel_rfl) (by kernel_rfl) (by kernel_rfl) (fun _ _ _ h => h) (by rfl) (by assumption) ?_; (simp only [Act.at, List.setIfInBounds_toArray, List.set_cons_zero, List.set_cons_succ]))
        first
        | (refine take_wanted (i := 3) (v := ?_) rfl rfl (by kernel_rfl) (by kernel_rfl) (by kernel_rfl) (fun _ _ _ h => h) (by rfl) (by assumption) ?_ ?_; rotate_left; (focus (intro w hSw; (try dsimp only at hSw); go_simp; first | done | with_reducible rfl)); (simp only [Act.at, List.setIfInBounds_toArray, List.set_cons_zero, List.set_cons_succ]))
        | (refine take_unwanted (i := 3) rfl rfl (by kernel_rfl) (by kernel_rfl) (by kernel_rfl) (fun _ _ _ h => h) (by rfl) (by assumption) ?_; (simp only [Act.at, List.setIfInBounds_toArray, List.set_cons_zero, List.set_cons_succ]))
        first
        | (refine take_wanted (i := 4) (v := ?_) rfl rfl (by kernel_rfl) (by kernel_rfl) (by kernel_rfl) (fun _ _ _ h => h) (by rfl) (by assumption) ?_ ?_; rotate_left; (focus (intro w hSw; (try dsimp only at hSw); go_simp; first | done | with_reducible rfl)); (simp only [Act.at, List.setIfInBounds_toArray, List.set_cons_zero, List.set_cons_succ]))
        | (refine take_unwanted (i := 4) rfl rfl (by kernel_rfl) (by kernel_rfl) (by kernel_rfl) (fun _ _ _ h => h) (by rfl) (by assumption) ?_; (simp only [Act.at, List.setIfInBounds_toArray, List.set_cons_zero, List.set_cons_succ]))
        first
        | (refine take_wanted (i := 5) (v := ?_) rfl rfl (by kernel_rfl) (by kernel_rfl) (by kernel_rfl) (fun _ _ _ h => h) (by rfl) (by assumption) ?_ ?_; rotate_left; (focus (intro w hSw; (try dsimp only at hSw); go_simp; first | done | with_reducible rfl)); (simp only [Act.at, List.setIfInBounds_toArray, List.set_cons_zero, List.set_cons_succ]))
        | (refine take_unwanted (i := 5) rfl rfl (by kernel_rfl) (by kernel_rfl) (by kernel_rfl) (fun _ _ _ h => h) (by rfl) (by assumption) ?_; (simp only [Act.at, List.setIfInBounds_toArray, List.set_cons_zero, List.set_cons_succ]))
        first
        | (refine take_wanted (i := 6) (v := ?_) rfl rfl (by kernel_rfl) (by kernel_rfl) (by kernel_rfl) (fun _ _ _ h => h) (by rfl) (by assumption) ?_ ?_; rotate_left; (focus (intro w hSw; (try dsimp only at hSw); go_simp; first | done | with_reducible rfl)); (simp only [Act.at, List.setIfInBounds_toArray, List.set_cons_zero, List.set_cons_succ]))
        | (refine take_unwanted (i := 6) rfl rfl (by kernel_rfl) (by kernel_rfl) (by kernel_rfl) (fun _ _ _ h => h) (by rfl) (by assumption) ?_; (simp only [Act.at, List.setIfInBounds_toArray, List.set_cons_zero, List.set_cons_succ]))
        first
        | (refine take_wanted (i := 7) (v := ?_) rfl rfl (by kernel_rfl) (by kernel_rfl) (by kernel_rfl) (fun _ _ _ h => h) (by rfl) (by assumption) ?_ ?_; rotate_left; (focus (intro w hSw; (try dsimp only at hSw); go_simp; first | done | with_reducible rfl)); (simp only [Act.at, List.setIfInBounds_toArray, List.set_cons_zero, List.set_cons_succ]))
        | (refine take_unwanted (i := 7) rfl rfl (by kernel_rfl) (by kernel_rfl) (by kernel_rfl) (fun _ _ _ h => h) (by rfl) (by assumption) ?_; (simp only [Act.at, List.setIfInBounds_toArray, List.set_cons_zero, List.set_cons_succ]))
        first
        | (refine take_wanted (i := 8) (v := ?_) rfl rfl (by kernel_rfl) (by kernel_rfl) (by kernel_rfl) (fun _ _ _ h => h) (by rfl) (by assumption) ?_ ?_; rotate_left; (focus (intro w hSw; (try dsimp only at hSw); go_simp; first | done | with_reducible rfl)); (simp only [Act.at, List.setIfInBounds_toArray, List.set_cons_zero, List.set_cons_succ]))
        | (refine take_unwanted (i := 8) rfl rfl (by kernel_rfl) (by kernel_rfl) (by kernel_rfl) (fun _ _ _ h => h) (by rfl) (by assumption) ?_; (simp only [Act.at, List.setIfInBounds_toArray, List.set_cons_zero, List.set_cons_succ]))
        first
        | (refine take_wanted (i := 9) (v := ?_) rfl rfl (by kernel_rfl) (by kernel_rfl) (by kernel_rfl) (fun _ _ _ h => h) (by rfl) (by assumption) ?_ ?_; rotate_left; (focus (intro w hSw; (try dsimp only at hSw); go_simp; first | done | with_reducible rfl)); (simp only [Act.at, List.setIfInBounds_toArray, List.set_cons_zero, List.set_cons_succ]))
        | (refine take_unwanted (i := 9) rfl rfl (by kernel_rfl) (by kernel_rfl) (by kernel_rfl) (fun _ _ _ h => h) (by rfl) (by assumption) ?_; (simp only [Act.at, List.setIfInBounds_toArray, List.set_cons_zero, List.set_cons_succ]))
        refine wpAnyH_done (by kernel_rfl) ?_ _
        obtain ⟨c0, c1, p0, p1⟩ := hx
        have HO0 := Lib.hid (hown0.alloc (.cells #[.int .i64 xs, .int .i64 xd] 34))
        have HM0 := Lib.hid (duMade w1 xs xd)
        have hs0 : W0.heap.size ≤ w1.heap.size := hbk0.size
        go_wp2_with (at_builtin; refine wpList_append_own _ rfl (.tmp 28) (.tmp 33) 30 rfl W0.heap.size 34 i0 (.agg #[.int .i64 0, .int .i64 0]) 2 16 Try.underlying30 HI.out.1 HI.out.2.1 HI.out.2.2.1 HI.out.2.2.2 rfl (by decide) u5 out.length (dvs out) rfl HO0.out ⟨w1.heap.size, 0, none⟩ 1 1 (⟨xs, xd⟩ : Du).cs rfl rfl HM0.out (by intro u hu; simp [Du.cs] at hu; rcases hu with rfl | rfl <;> rfl) (by simp only [maxLen]; omega) (by omega) (by simp; omega) ?_; intro v0 w0 hownn0 hg0 hnil0)
        have hg0' := grown_alloc _ hg0
        rw [dvs_snoc] at hownn0
        have hbk1 := duGrown hbk0 hg0' hs0 (fun q hq => (hown0.lt q hq).1)
        have hown1 : w0.ownsRow W0.heap.size 34 2 v0 (out ++ [(⟨xs, xd⟩ : Du)]).length (dvs (out ++ [(⟨xs, xd⟩ : Du)])) := by rw [List.length_append]; exact hownn0
        have HREL := Lib.hid (And.intro hown1 hbk1)
        clear hown0 hbk0 hown1 hbk1 hownn0 hg0 hg0' hnil0 hbl0 hHeld c0 c1 p0 p1 HO0 HM0
        go_wp2_with fail
        go_roundg n
        case measure => omega
        case rel => exact ⟨k + 1, _, _, by have := HN.out; omega, by go_num, rfl, HNEW, HREL.out.1, HREL.out.2⟩
      | false =>
        have hAH := fun W => dahead_any (⟨ds, dd⟩ : Du) ⟨xs, xd⟩ W
        dsimp only at hAH
        have HAH := Lib.hid hAH
        clear hAH HPAST
        refine wp_region_held_drew (S := PutS b0 b (off + k * 2) ⟨ds, dd⟩ ⟨xs, xd⟩) (by kernel_rfl) hx (fun hHeld => ?_)
        generalize wr.drew = w1 at hx hHeld hown0 hbk0 hbl0 ⊢
        first
        | (refine take_wanted (i := 0) (v := ?_) rfl rfl (by kernel_rfl) (by kernel_rfl) (by kernel_rfl) (fun _ _ _ h => h) (by rfl) (by assumption) ?_ ?_; rotate_left; (focus (intro w hSw; (try dsimp only at hSw); go_simp; first | done | with_reducible rfl)); (simp only [Act.at, List.setIfInBounds_toArray, List.set_cons_zero, List.set_cons_succ]))
        | (refine take_unwanted (i := 0) rfl rfl (by kernel_rfl) (by kernel_rfl) (by kernel_rfl) (fun _ _ _ h => h) (by rfl) (by assumption) ?_; (simp only [Act.at, List.setIfInBounds_toArray, List.set_cons_zero, List.set_cons_succ]))
        first
        | (refine take_wanted (i := 1) (v := ?_) rfl rfl (by kernel_rfl) (by kernel_rfl) (by kernel_rfl) (fun _ _ _ h => h) (by rfl) (by assumption) ?_ ?_; rotate_left; (focus (intro w hSw; (try dsimp only at hSw); go_simp; first | done | with_reducible rfl)); (simp only [Act.at, List.setIfInBounds_toArray, List.set_cons_zero, List.set_cons_succ]))
        | (refine take_unwanted (i := 1) rfl rfl (by kernel_rfl) (by kernel_rfl) (by kernel_rfl) (fun _ _ _ h => h) (by rfl) (by assumption) ?_; (simp only [Act.at, List.setIfInBounds_toArray, List.set_cons_zero, List.set_cons_succ]))
        first
        | (refine take_wanted (i := 2) (v := ?_) rfl rfl (by kernel_rfl) (by kernel_rfl) (by kernel_rfl) (fun _ _ _ h => h) (by rfl) (by assumption) ?_ ?_; rotate_left; (focus (intro w hSw; (try dsimp only at hSw); go_simp; first | done | with_reducible rfl)); (simp only [Act.at, List.setIfInBounds_toArray, List.set_cons_zero, List.set_cons_succ]))
        | (refine take_unwanted (i := 2) rfl rfl (by kernel_rfl) (by kernel_rfl) (by kernel_rfl) (fun _ _ _ h => h) (by rfl) (by assumption) ?_; (simp only [Act.at, List.setIfInBounds_toArray, List.set_cons_zero, List.set_cons_succ]))
        first
        | (refine take_wanted (i := 3) (v := ?_) rfl rfl (by kernel_rfl) (by kernel_rfl) (by kernel_rfl) (fun _ _ _ h => h) (by rfl) (by assumption) ?_ ?_; rotate_left; (focus (intro w hSw; (try dsimp only at hSw); go_simp; first | done | with_reducible rfl)); (simp only [Act.at, List.setIfInBounds_toArray, List.set_cons_zero, List.set_cons_succ]))
        | (refine take_unwanted (i := 3) rfl rfl (by kernel_rfl) (by kernel_rfl) (by kernel_rfl) (fun _ _ _ h => h) (by rfl) (by assumption) ?_; (simp only [Act.at, List.setIfInBounds_toArray, List.set_cons_zero, List.set_cons_succ]))
        first
        | (refine take_wanted (i := 4) (v := ?_) rfl rfl (by kernel_rfl) (by kernel_rfl) (by kernel_rfl) (fun _ _ _ h => h) (by rfl) (by assumption) ?_ ?_; rotate_left; (focus (intro w hSw; (try dsimp only at hSw); go_simp; first | done | with_reducible rfl)); (simp only [Act.at, List.setIfInBounds_toArray, List.set_cons_zero, List.set_cons_succ]))
        | (refine take_unwanted (i := 4) rfl rfl (by kernel_rfl) (by kernel_rfl) (by kernel_rfl) (fun _ _ _ h => h) (by rfl) (by assumption) ?_; (simp only [Act.at, List.setIfInBounds_toArray, List.set_cons_zero, List.set_cons_succ]))
        first
        | (refine take_wanted (i := 5) (v := ?_) rfl rfl (by kernel_rfl) (by kernel_rfl) (by kernel_rfl) (fun _ _ _ h => h) (by rfl) (by assumption) ?_ ?_; rotate_left; (focus (intro w hSw; (try dsimp only at hSw); go_simp; first | done | with_reducible rfl)); (simp only [Act.at, List.setIfInBounds_toArray, List.set_cons_zero, List.set_cons_succ]))
        | (refine take_unwanted (i := 5) rfl rfl (by kernel_rfl) (by kernel_rfl) (by kernel_rfl) (fun _ _ _ h => h) (by rfl) (by assumption) ?_; (simp only [Act.at, List.setIfInBounds_toArray, List.set_cons_zero, List.set_cons_succ]))
        first
        | (refine take_wanted (i := 6) (v := ?_) rfl rfl (by kernel_rfl) (by kernel_rfl) (by kernel_rfl) (fun _ _ _ h => h) (by rfl) (by assumption) ?_ ?_; rotate_left; (focus (intro w hSw; (try dsimp only at hSw); go_simp; first | done | with_reducible rfl)); (simp only [Act.at, List.setIfInBounds_toArray, List.set_cons_zero, List.set_cons_succ]))
        | (refine take_unwanted (i := 6) rfl rfl (by kernel_rfl) (by kernel_rfl) (by kernel_rfl) (fun _ _ _ h => h) (by rfl) (by assumption) ?_; (simp only [Act.at, List.setIfInBounds_toArray, List.set_cons_zero, List.set_cons_succ]))
        first
        | (refine take_wanted (i := 7) (v := ?_) rfl rfl (by kernel_rfl) (by kernel_rfl) (by kernel_rfl) (fun _ _ _ h => h) (by rfl) (by assumption) ?_ ?_; rotate_left; (focus (intro w hSw; (try dsimp only at hSw); go_simp; first | done | with_reducible rfl)); (simp only [Act.at, List.setIfInBounds_toArray, List.set_cons_zero, List.set_cons_succ]))
        | (refine take_unwanted (i := 7) rfl rfl (by kernel_rfl) (by kernel_rfl) (by kernel_rfl) (fun _ _ _ h => h) (by rfl) (by assumption) ?_; (simp only [Act.at, List.setIfInBounds_toArray, List.set_cons_zero, List.set_cons_succ]))
        refine take_call (i := 8) (by kernel_rfl) rfl rfl (by rfl) (fun K hK => ?_)
        go_simp
        refine (HAH.out _).mono ?_
        rintro r w4 ⟨rfl, hb4⟩
        have hx4 : PutS b0 b (off + k * 2) ⟨ds, dd⟩ ⟨xs, xd⟩ w4 := ⟨(hb4.cell (p := ⟨b0, 0, none⟩) hbl0.2).trans hx.1, (hb4.cell (p := ⟨b0, 1, none⟩) hbl0.2).trans hx.2.1, (hb4.cell (p := ⟨b, off + k * 2, none⟩) hbl0.1).trans hx.2.2.1, (hb4.cell (p := ⟨b, off + k * 2 + 1, none⟩) hbl0.1).trans hx.2.2.2⟩
        have hown4 := own_mv hown0 (Mv.of_below hb4 []) (by simp)
        have hbk4 := hbk0.trans (hb4.mono hbk0.size)
        have hbl4 : b < w4.heap.size ∧ b0 < w4.heap.size := ⟨Nat.lt_of_lt_of_le hbl0.1 hb4.size, Nat.lt_of_lt_of_le hbl0.2 hb4.size⟩
        clear hx hHeld hown0 hbk0 hbl0 hb4 HAH
        refine hK.out _ _ hx4 (fun hHeld => ?_)
        clear hK K
        try simp only [Act.put, List.setIfInBounds_toArray, List.set_cons_zero, List.set_cons_succ]
        first
        | (refine take_wanted (i := 9) (v := ?_) rfl rfl (by kernel_rfl) (by kernel_rfl) (by kernel_rfl) (fun _ _ _ h => h) (by rfl) (by assumption) ?_ ?_; rotate_left; (focus (intro w hSw; (try dsimp only at hSw); go_simp; first | done | with_reducible rfl)); (simp only [Act.at, List.setIfInBounds_toArray, List.set_cons_zero, List.set_cons_succ]))
        | (refine take_unwanted (i := 9) rfl rfl (by kernel_rfl) (by kernel_rfl) (by kernel_rfl) (fun _ _ _ h => h) (by rfl) (by assumption) ?_; (simp only [Act.at, List.setIfInBounds_toArray, List.set_cons_zero, List.set_cons_succ]))
        refine wpAnyH_done (by kernel_rfl) ?_ _
        obtain ⟨c0, c1, p0, p1⟩ := hx4
        cases hlt2 : Du.lt ⟨ds, dd⟩ ⟨xs, xd⟩ with
        | false =>
          have HNEW := Lib.hid (HMISS.out HK.out hlt2)
          clear HHIT HMISS HK hlt2
          have HO4 := Lib.hid (hown4.alloc (.cells #[.int .i64 xs, .int .i64 xd] 34))
          have HM4 := Lib.hid (duMade w4 xs xd)
          have hs4 : W0.heap.size ≤ w4.heap.size := hbk4.size
          go_wp2_with (at_builtin; refine wpList_append_own _ rfl (.tmp 28) (.tmp 33) 30 rfl W0.heap.size 34 i0 (.agg #[.int .i64 0, .int .i64 0]) 2 16 Try.underlying30 HI.out.1 HI.out.2.1 HI.out.2.2.1 HI.out.2.2.2 rfl (by decide) u5 out.length (dvs out) rfl HO4.out ⟨w4.heap.size, 0, none⟩ 1 1 (⟨xs, xd⟩ : Du).cs rfl rfl HM4.out (by intro u hu; simp [Du.cs] at hu; rcases hu with rfl | rfl <;> rfl) (by simp only [maxLen]; omega) (by omega) (by simp; omega) ?_; intro v4 w4 hownn4 hg4 hnil4)
          have hg4' := grown_alloc _ hg4
          rw [dvs_snoc] at hownn4
          have hbk5 := duGrown hbk4 hg4' hs4 (fun q hq => (hown4.lt q hq).1)
          have hown5 : w4.ownsRow W0.heap.size 34 2 v4 (out ++ [(⟨xs, xd⟩ : Du)]).length (dvs (out ++ [(⟨xs, xd⟩ : Du)])) := by rw [List.length_append]; exact hownn4
          have HREL := Lib.hid (And.intro hown5 hbk5)
          clear hown4 hbk4 hown5 hbk5 hownn4 hg4 hg4' hnil4 hbl4 hHeld c0 c1 p0 p1 HO4 HM4
          go_wp2_with fail
          go_roundg n
          case measure => omega
          case rel => exact ⟨k + 1, _, _, by have := HN.out; omega, by go_num, rfl, HNEW, HREL.out.1, HREL.out.2⟩
        | true =>
          have HNEW := Lib.hid (HHIT.out HK.out hlt2)
          clear HHIT HMISS HK hlt2
          have hown6 := hown4
          have hbk6 := hbk4
          have HO6 := Lib.hid (hown6.alloc (.cells #[.int .i64 ds, .int .i64 dd] 34))
          have HM6 := Lib.hid (duMade w4 ds dd)
          have hs6 : W0.heap.size ≤ w4.heap.size := hbk6.size
          go_upto_region 9 with (at_builtin; refine wpList_append_own _ rfl (.tmp 24) (.tmp 26) 30 rfl W0.heap.size 34 i0 (.agg #[.int .i64 0, .int .i64 0]) 2 16 Try.underlying30 HI.out.1 HI.out.2.1 HI.out.2.2.1 HI.out.2.2.2 rfl (by decide) u5 out.length (dvs out) rfl HO6.out ⟨w4.heap.size, 0, none⟩ 1 1 (⟨ds, dd⟩ : Du).cs rfl rfl HM6.out (by intro u hu; simp [Du.cs] at hu; rcases hu with rfl | rfl <;> rfl) (by simp only [maxLen]; (try simp only [List.length_append, List.length_cons, List.length_nil]); omega) (by (try simp only [List.length_append, List.length_cons, List.length_nil]); omega) (by simp; omega) ?_; intro v6 w6 hownn6 hg6 hnil6)
          have hg6' := grown_alloc _ hg6
          rw [dvs_snoc] at hownn6
          have hbk7 := duGrown hbk6 hg6' hs6 (fun q hq => (hown6.lt q hq).1)
          have hown7 : w6.ownsRow W0.heap.size 34 2 v6 (out ++ [(⟨ds, dd⟩ : Du)]).length (dvs (out ++ [(⟨ds, dd⟩ : Du)])) := by rw [List.length_append]; exact hownn6
          have q0 := hg6'.cell p0 (fun e => by have := (hown6.lt _ e.symm).1; dsimp only at this; omega)
          have q1 := hg6'.cell p1 (fun e => by have := (hown6.lt _ e.symm).1; dsimp only at this; omega)
          have hown8 := hown7
          have hbk8 := hbk7
          clear hown4 hbk4 hown6 hbk6 hown7 hbk7 hownn6 hg6 hg6' hnil6 hbl4 hHeld c0 c1 p0 p1 HO6 HM6
          have HO8 := Lib.hid (hown8.alloc (.cells #[.int .i64 xs, .int .i64 xd] 34))
          have HM8 := Lib.hid (duMade w6 xs xd)
          have hs8 : W0.heap.size ≤ w6.heap.size := hbk8.size
          go_wp2_with (at_builtin; refine wpList_append_own _ rfl (.tmp 28) (.tmp 33) 30 rfl W0.heap.size 34 i0 (.agg #[.int .i64 0, .int .i64 0]) 2 16 Try.underlying30 HI.out.1 HI.out.2.1 HI.out.2.2.1 HI.out.2.2.2 rfl (by decide) v6 (out ++ [(⟨ds, dd⟩ : Du)]).length (dvs (out ++ [(⟨ds, dd⟩ : Du)])) rfl HO8.out ⟨w6.heap.size, 0, none⟩ 1 1 (⟨xs, xd⟩ : Du).cs rfl rfl HM8.out (by intro u hu; simp [Du.cs] at hu; rcases hu with rfl | rfl <;> rfl) (by simp only [maxLen]; (try simp only [List.length_append, List.length_cons, List.length_nil]); omega) (by (try simp only [List.length_append, List.length_cons, List.length_nil]); omega) (by simp; omega) ?_; intro v8 w8 hownn8 hg8 hnil8)
          have hg8' := grown_alloc _ hg8
          rw [dvs_snoc] at hownn8
          have hbk9 := duGrown hbk8 hg8' hs8 (fun q hq => (hown8.lt q hq).1)
          have hown9 : w8.ownsRow W0.heap.size 34 2 v8 ((out ++ [(⟨ds, dd⟩ : Du)]) ++ [(⟨xs, xd⟩ : Du)]).length (dvs ((out ++ [(⟨ds, dd⟩ : Du)]) ++ [(⟨xs, xd⟩ : Du)])) := by rw [List.length_append]; exact hownn8
          have HREL := Lib.hid (And.intro hown9 hbk9)
          clear hown8 hbk8 hown9 hbk9 hownn8 hg8 hg8' hnil8 q0 q1 HO8 HM8
          go_wp2_with fail
          go_roundg n
          case measure => omega
          case rel => exact ⟨k + 1, _, _, by have := HN.out; omega, by go_num, rfl, HNEW, HREL.out.1, HREL.out.2⟩
end Go.Proofs.Ytjmdpepghnhpkaa
