/-
  A record is appended to both: the statement's add.
-/
import Derived.Test.YtjdklifkalnamaaGreatDoorJrnAgain
import Derived.Test.YtjdklifkalnamaaGreatDoorJrnTxt
namespace Go.Proofs.YtjdklifkalnamaaGreatDoor
open Go.RowKit
set_option linter.unusedVariables false

theorem and_mask (x : Int) (m : Nat) (hm : m < 9223372036854775808) : ∃ n : Nat, n ≤ m ∧ bits .and .i64 x (m : Int) = (n : Int) := by
  have h2 : (BitVec.ofInt 64 (m : Int)).toNat = m := by rw [BitVec.ofInt_natCast, BitVec.toNat_ofNat]; exact Nat.mod_eq_of_lt (by omega)
  have h3 : (BitVec.ofInt 64 x &&& BitVec.ofInt 64 (m : Int)).toNat ≤ m := by
    rw [BitVec.toNat_and, h2]
    exact Nat.and_le_right
  refine ⟨_, h3, ?_⟩
  show IntKind.i64.wrap ((BitVec.ofInt 64 x &&& BitVec.ofInt 64 (m : Int)).toNat : Int) = _
  rw [IntKind.wrap_i64]
  omega
/-- The texts, and one more. -/
theorem PlIn.grown {K : Kp} {w0 W W' : World} {gp : Nat} {v v' : Value} {L L' : List (List UInt8)} {sure boot : Nat} {l : List Nat} (h : PlIn K w0 W gp v L sure boot l) (hl : ∀ k ∈ l, k < W.heap.size)
    (hr : JRow W' v' L') (hm : Mv W W' v.ownBlock.toList) (hb : v'.ownBlock = v.ownBlock ∨ ∀ k, v'.ownBlock = some k → W.heap.size ≤ k) (h0 : w0.heap.size ≤ W.heap.size) :
    PlIn K w0 (W'.setCell ⟨gp, 0, none⟩ v') gp v' L' sure boot l := by
  obtain ⟨l1, l2⟩ := h.lt
  have hgn : gp ∉ v.ownBlock.toList := fun hk => by
    cases hv : v.ownBlock with
    | none => rw [hv] at hk; simp at hk
    | some k =>
      rw [hv] at hk
      simp at hk
      exact h.own (by rw [hv, hk])
  have hne : v'.ownBlock ≠ some gp := fun e => by
    rcases hb with hb | hb
    · exact h.own (by rw [← hb, e])
    · have := hb gp e
      omega
  have ho := Only.set W' gp 0 v'
  refine ⟨⟨?_, hr.mv (Mv.of_only ho (s := [gp]) (by simp)) (fun k hk hm => by rw [List.mem_singleton.1 hm] at hk; exact hne hk)⟩, hne, h.no, ?_, h.lo, ?_, fun o t cs e => ?_⟩
  · have := (hm.has h.at_.has hgn).set 0 v'
    exact this
  · intro k hk hkl
    rcases hb with hb | hb
    · exact h.nor k (by rw [← hb, hk]) hkl
    · have := hb k hk
      have := hl k hkl
      omega
  · intro k hk
    rcases hb with hb | hb
    · exact h.lor k (by rw [← hb, hk])
    · have := hb k hk
      omega
  · obtain ⟨h1, h2, h3, h4⟩ := h.kp o t cs e
    have hko : o ∉ v.ownBlock.toList := fun hk => by
      cases hv : v.ownBlock with
      | none => rw [hv] at hk; simp at hk
      | some k =>
        rw [hv] at hk
        simp at hk
        exact h4 (by rw [hv, hk])
    refine ⟨ho.has (hm.has h1 hko) h3, h2, h3, fun e2 => ?_⟩
    rcases hb with hb | hb
    · exact h4 (by rw [← hb, e2])
    · have := hb o e2
      have := h1.lt
      omega
theorem own_mem {K : Kp} {w0 W : World} {gp : Nat} {v : Value} {L : List (List UInt8)} {sure boot : Nat} {l : List Nat} (h : PlIn K w0 W gp v L sure boot l) : (∀ k ∈ v.ownBlock.toList, k ∉ l) ∧ (∀ k ∈ v.ownBlock.toList, w0.heap.size ≤ k) ∧ gp ∉ v.ownBlock.toList := by
  cases hv : v.ownBlock with
  | none => simp
  | some q =>
    have h1 := h.nor q hv
    have h2 := h.lor q hv
    have h3 := h.own
    rw [hv] at h3
    simp only [Option.toList_some, List.mem_singleton, forall_eq]
    exact ⟨h1, h2, fun e => h3 (by rw [e])⟩
theorem UW.grown {K : Kp} {w0 W W' : World} {J : JB} {gp : Nat} {v v' : Value} {L L' : List (List UInt8)} {sure boot b wn : Nat} {P N : List Jrn.Rec} {d : Dsk.St} (h : UW K w0 W J gp v L sure boot b wn P N d) (hr : JRow W' v' L') (hm : Mv W W' v.ownBlock.toList) (hb : v'.ownBlock = v.ownBlock ∨ ∀ k, v'.ownBlock = some k → W.heap.size ≤ k) :
    UW K w0 (W'.setCell ⟨gp, 0, none⟩ v') J gp v' L' sure boot b wn P N d := by
  obtain ⟨a1, a2, a3⟩ := own_mem h.pl
  have j1 := h.jat.apart hm a1 a2
  exact ⟨j1.apart (Mv.of_only (Only.set W' gp 0 v') (s := [gp]) (by simp)) (fun k hk => by rw [List.mem_singleton.1 hk]; exact h.pl.no) (fun k hk => by rw [List.mem_singleton.1 hk]; exact h.pl.lo), h.pl.grown h.jat.lts hr hm hb h.jat.gw.bel.size⟩
theorem DW.grown {K : Kp} {w0 W W' : World} {g bd mb gp : Nat} {v v' : Value} {L L' : List (List UInt8)} {sure boot : Nat} {d : Dsk.St} (h : DW K w0 W g bd mb gp v L sure boot d) (hr : JRow W' v' L') (hm : Mv W W' v.ownBlock.toList) (hb : v'.ownBlock = v.ownBlock ∨ ∀ k, v'.ownBlock = some k → W.heap.size ≤ k) :
    DW K w0 (W'.setCell ⟨gp, 0, none⟩ v') g bd mb gp v' L' sure boot d := by
  obtain ⟨a1, a2, a3⟩ := own_mem h.pl
  have hn := h.pl.no
  simp only [List.mem_cons, List.not_mem_nil, or_false, not_or] at hn
  have ho := Only.set W' gp 0 v'
  have hd1 := h.dsk.mv hm (fun hk => a1 _ hk (by simp)) (fun hk => a1 _ hk (by simp)) (fun hk => a1 _ hk (by simp))
  have hb1 := hm.below h.bel h.bel.size a2
  obtain ⟨q1, q2, q3⟩ := h.dsk.lt
  exact ⟨hd1.mv (Mv.of_only ho (s := [gp]) (by simp)) (by simp; omega) (by simp; omega) (by simp; omega), h.pl.grown (fun k hk => by simp only [List.mem_cons, List.not_mem_nil, or_false] at hk; rcases hk with rfl | rfl | rfl <;> assumption) hr hm hb h.bel.size, ho.below hb1 hb1.size h.pl.lo, h.lo⟩
/-- The statement's journals, both up. -/
def LUp (K : Kp) (w0 W : World) (g bd mb gp b gj A F : Nat) : Prop := ∃ (J : JB) (v : Value) (wn : Nat) (P N : List Jrn.Rec) (d : Dsk.St), J.gj = gj ∧ J.g = g ∧ J.bd = bd ∧ J.mb = mb ∧ UW K w0 W J gp v (Jrn.txts P N) P.length b b wn P N d ∧ d.acts ≤ A ∧ d.falls ≤ F
/-- The power has gone. -/
def LDn (K : Kp) (w0 W : World) (g bd mb gp b A F : Nat) : Prop := ∃ (v : Value) (P N : List Jrn.Rec) (d : Dsk.St), DW K w0 W g bd mb gp v (Jrn.txts P N) P.length b d ∧ Jrn.JDown b P N d ∧ d.acts ≤ A ∧ d.falls ≤ F
theorem UW.dw {K : Kp} {w0 W W' : World} {J : JB} {gp : Nat} {v : Value} {L : List (List UInt8)} {sure boot b wn : Nat} {P N : List Jrn.Rec} {d d' : Dsk.St} (h : UW K w0 W J gp v L sure boot b wn P N d) (hd : DiskAt W' J.g J.bd J.mb d') (hm : Mv W W' J.all) (hb : Below w0.heap.size w0 W') : DW K w0 W' J.g J.bd J.mb gp v L sure boot d' :=
  ⟨hd, (h.pl.mv hm).less (fun k hk => Or.inl (by unfold JB.all; simp only [List.mem_cons, List.not_mem_nil, or_false] at hk ⊢; omega)), hb, fun k hk => h.jat.gw.lo k (by simp only [List.mem_cons, List.not_mem_nil, or_false] at hk ⊢; omega)⟩
theorem UW.on {K : Kp} {w0 W W' : World} {J J' : JB} {gp : Nat} {v : Value} {L : List (List UInt8)} {sure boot b wn wn' : Nat} {P N P' N' : List Jrn.Rec} {d d' : Dsk.St} (h : UW K w0 W J gp v L sure boot b wn P N d) (hJ : JAt w0 W' J' b wn' P' N' d') (hm : Mv W W' J.all) (ho : J.on J' W) : UW K w0 W' J' gp v L sure boot b wn' P' N' d' := by
  obtain ⟨o1, o2, o3, o4, o5, o6, o7⟩ := ho
  obtain ⟨l1, l2⟩ := h.pl.lt
  have l3 := h.pl.klt
  refine ⟨hJ, (h.pl.mv hm).less (fun k hk => ?_)⟩
  unfold JB.all at hk ⊢
  rw [o1, o2, o3, o4, o5] at hk
  simp only [List.mem_cons, List.not_mem_nil, or_false] at hk ⊢
  by_cases hr : k = J'.row
  · rcases o6 with o6 | o6
    · exact Or.inl (by omega)
    · refine Or.inr ⟨by omega, fun e => ?_, fun o t cs e => ?_⟩
      · have := l2 k e
        omega
      · have := l3 o t cs e
        omega
  · by_cases hr2 : k = J'.stp
    · rcases o7 with o7 | o7
      · exact Or.inl (by omega)
      · refine Or.inr ⟨by omega, fun e => ?_, fun o t cs e => ?_⟩
        · have := l2 k e
          omega
        · have := l3 o t cs e
          omega
    · exact Or.inl (by omega)
end Go.Proofs.YtjdklifkalnamaaGreatDoor
