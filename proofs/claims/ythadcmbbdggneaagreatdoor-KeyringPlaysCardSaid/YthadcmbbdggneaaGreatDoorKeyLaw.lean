/-
  KeyLaw: the texts KeyLawB, KeyLawC, KeyLawD, KeyLawE, KeyLawF in one.
-/
import Derived.Test.YthadcmbbdggneaaGreatDoorKeyAt
namespace Go.Proofs.YthadcmbbdggneaaGreatDoor
open Go.RowKit
set_option linter.unusedVariables false

/-- A ring, and the document's, which is as it. -/
structure KU (P : Kp) (w0 W : World) (R : RB) (gp b wn sh : Nat) (K : Nat → Nat) (d : Dsk.St) : Prop where
  rt : RAt w0 W R b wn sh d
  on : Key.KOn K d
  pl : PlK P W gp K b sh
  no : gp ∉ R.all
  nok : ∀ o t cs, P = some (o, t, cs) → o ∉ R.all
  lo : w0.heap.size ≤ gp
  kb : ∀ i, i < 8 → K i ≤ 200
/-- The power has gone: the document's ring is as it was; the slot j was going to be c. -/
structure KD (P : Kp) (w0 W : World) (g bd mb gp b sh : Nat) (K : Nat → Nat) (j c : Nat) (d : Dsk.St) : Prop where
  dk : DiskAt W g bd mb d
  bel : Below w0.heap.size w0 W
  los : ∀ k ∈ [g, bd, mb], w0.heap.size ≤ k
  up : d.up = false
  mid : Key.KMid K j c d
  pl : PlK P W gp K b sh
  no : gp ∉ [g, bd, mb]
  nok : ∀ o t cs, P = some (o, t, cs) → o ∉ [g, bd, mb]
  lo : w0.heap.size ≤ gp
  kb : ∀ i, i < 8 → K i ≤ 200
  hj : j < 8
  on : (K j = 0 ∧ c ≠ 0) ∨ (K j ≠ 0 ∧ c = 0)
  cb : c ≤ 200
section
variable {P : Kp} {w0 w W W' : World} {R : RB} {gp b wn sh : Nat} {K : Nat → Nat} {d d' : Dsk.St}
theorem KU.below (h : KU P w0 W R gp b wn sh K d) (hb : Below W.heap.size W W') : KU P w0 W' R gp b wn sh K d := ⟨h.rt.below hb, h.on, h.pl.below hb, h.no, h.nok, h.lo, h.kb⟩
theorem KU.same (h : KU P w0 W R gp b wn sh K d) (hr : RAt w0 W' R b wn sh d) (hm : Mv W W' R.all) : KU P w0 W' R gp b wn sh K d := ⟨hr, h.on, h.pl.mv hm h.no h.nok, h.no, h.nok, h.lo, h.kb⟩
/-- Put or Shred behind it: what both are. -/
def BothPost (P : Kp) (w0 w : World) (R : RB) (gp b wn sh sh' : Nat) (K : Nat → Nat) (j c : Nat) (d : Dsk.St) (e : Ending) (w' : World) : Prop :=
  ∃ d', d'.acts ≤ d.acts + 2 ∧ d'.falls ≤ d.falls + 1 ∧
    ((e = .returned (.tuple #[.int .i64 0, .int .i64 0]) ∧ ∃ wn', wn' ≤ wn + 1 ∧ KU P w0 w' R gp b wn' sh' (Key.upd K j c) d' ∧ (d.arm = none → d'.arm = none)) ∨
     (e = .returned (.tuple #[.int .i64 8, .int .i64 0]) ∧ KD P w0 w' R.g R.bd R.mb gp b sh K j c d'))
theorem KU.dwn {c j : Nat} (h : KU P w0 w R gp b wn sh K d) (hm : Mv w W R.all) (hd : DiskAt W R.g R.bd R.mb d') (hb : Below w0.heap.size w0 W) (hu : d'.up = false) (hk : Key.KMid K j c d') (hj : j < 8) (hon : (K j = 0 ∧ c ≠ 0) ∨ (K j ≠ 0 ∧ c = 0)) (hc : c ≤ 200) : KD P w0 W R.g R.bd R.mb gp b sh K j c d' :=
  ⟨hd, hb, fun k hk => h.rt.los k (by unfold RB.all; simp only [List.mem_cons, List.not_mem_nil, or_false] at hk ⊢; omega), hu, hk, h.pl.mv hm h.no h.nok, fun hn => h.no (by unfold RB.all; simp only [List.mem_cons, List.not_mem_nil, or_false] at hn ⊢; omega), fun o t cs e hn => h.nok o t cs e (by unfold RB.all; simp only [List.mem_cons, List.not_mem_nil, or_false] at hn ⊢; omega), h.lo, h.kb, hj, hon, hc⟩
theorem upd_le {j c : Nat} (h : ∀ i, i < 8 → K i ≤ 200) (hc : c ≤ 200) : ∀ i, i < 8 → Key.upd K j c i ≤ 200 := fun i hi => by
  unfold Key.upd
  split
  · exact hc
  · exact h i hi
set_option maxHeartbeats 2000000 in
theorem kput_ok (h : KU P w0 w R gp b wn sh K d) (ha : d.acts < 900000000000) (hf : d.falls < 900000000000) (hw : wn < 1000000) {j c : Nat} (hj : j < 8) (h0 : K j = 0) (hc : c ≠ 0) (hc2 : c ≤ 200) :
    Calls Tryz.prog 9 #[.pointer (some ⟨R.rb, 0, none⟩), .pointer (some ⟨gp, 0, none⟩), .int .i64 (j : Int), .string (S (Key.keyT c)), .int .i64 (c : Int)] w (BothPost P w0 w R gp b wn sh sh K j c d) := by
  have HP := Lib.hid (yput_any h.rt h.on ha hf hw hj h0 hc)
  have HIN := Lib.hid (fun W => kin_yes j hj W)
  have HL : Hid ((Key.keyT c).length = 32) := Lib.hid (Key.keyT_len c)
  have hl2 : (((Key.keyT c).length : Int) != 32) = false := by rw [Key.keyT_len]; rfl
  have hl3 : ((Key.keyT c).length : Int) = 32 := by rw [Key.keyT_len]; rfl
  have HU := Lib.hid h
  have hj8 : (j : Int) < 8 := by omega
  have hj0 : (0 : Int) ≤ (j : Int) := by omega
  have HK0 : Hid (K j = 0) := Lib.hid h0
  have HON : Hid ((K j = 0 ∧ c ≠ 0) ∨ (K j ≠ 0 ∧ c = 0)) := Lib.hid (Or.inl ⟨h0, hc⟩)
  unfold RDone at HP
  clear h h0 ha hf hw
  generalize Key.keyT c = kt at *
  go_enter Tryz.func9, Tryz.ntmps9
  go_wp2_with fail
  refine HP.out.mono ?_
  rintro r w1 ⟨c', rfl, hm, d', hac, hfa, hr⟩
  have hpl := HU.out.pl.mv hm HU.out.no HU.out.nok
  have hcell : w1.cell? ⟨gp, j, none⟩ = some (.int .i64 0) := by
    have := hpl.key j hj
    rw [HK0.out] at this
    exact this
  have hfr := hpl.has.free j
  have HPL := Lib.hid hpl
  have HM := Lib.hid hm
  have HAC := Lib.hid (And.intro hac hfa)
  clear hpl hm hac hfa
  rcases hr with ⟨rfl, wn', q1, q2, q3, q4⟩ | ⟨rfl, q1, q2, q3, q4, -⟩
  · have HQ := Lib.hid (And.intro q1 (And.intro q2 (And.intro q3 q4)))
    clear q1 q2 q3 q4
    go_wp2_with fail
    refine (HIN.out _).mono ?_
    rintro r w2 ⟨rfl, rfl⟩
    go_wp2_with fail
    go_ret2
    refine ⟨d', HAC.out.1, HAC.out.2, Or.inl ⟨rfl, wn', HQ.out.1, ⟨HQ.out.2.1.apart (Mv.of_only (Only.set _ gp j (.int .i64 (c : Int))) (s := [gp]) (by simp)) (fun k hk => by rw [List.mem_singleton.1 hk]; exact HU.out.no) (fun k hk => by rw [List.mem_singleton.1 hk]; exact HU.out.lo), HQ.out.2.2.1, HPL.out.setKey j c hj, HU.out.no, HU.out.nok, HU.out.lo, upd_le HU.out.kb hc2⟩, HQ.out.2.2.2⟩⟩
  · have HQ := Lib.hid (HU.out.dwn HM.out q1 q2 q3 q4 hj HON.out hc2)
    clear q1 q2 q3 q4
    go_wp2_with fail
    refine (HIN.out _).mono ?_
    rintro r w2 ⟨rfl, rfl⟩
    go_wp2_with fail
    go_ret2
    exact ⟨d', HAC.out.1, HAC.out.2, Or.inr ⟨rfl, HQ.out⟩⟩
/-- Both refuse: nothing that the law sees has turned. -/
def SamePost (P : Kp) (w0 : World) (R : RB) (gp b wn sh : Nat) (K : Nat → Nat) (d : Dsk.St) (x y : Int) (e : Ending) (w' : World) : Prop := e = .returned (.tuple #[.int .i64 x, .int .i64 y]) ∧ KU P w0 w' R gp b wn sh K d
theorem kput_range (h : KU P w0 w R gp b wn sh K d) {i : Int} (hi : i < 0 ∨ 8 ≤ i) (s : List UInt8) (c : Int) :
    Calls Tryz.prog 9 #[.pointer (some ⟨R.rb, 0, none⟩), .pointer (some ⟨gp, 0, none⟩), .int .i64 i, .string (S s), .int .i64 c] w (SamePost P w0 R gp b wn sh K d 5 5) := by
  have HP := Lib.hid (yput_range h.rt hi s)
  have HIN := Lib.hid (fun W => kin_no i hi W)
  have HU := Lib.hid h
  clear h hi
  go_enter Tryz.func9, Tryz.ntmps9
  go_wp2_with fail
  refine HP.out.mono ?_
  rintro r w1 ⟨rfl, rfl⟩
  go_wp2_with fail
  refine (HIN.out _).mono ?_
  rintro r w2 ⟨rfl, rfl⟩
  go_wp2_with fail
  go_ret2
  exact ⟨rfl, HU.out⟩
theorem kput_arg (h : KU P w0 w R gp b wn sh K d) (ha : d.acts < 900000000000) (hf : d.falls < 900000000000) (hw : wn < 1000000) {j : Nat} (hj : j < 8) (s : List UInt8) (hs : s.length ≠ 32) (hs2 : s.length ≤ 1000000) (c : Int) :
    Calls Tryz.prog 9 #[.pointer (some ⟨R.rb, 0, none⟩), .pointer (some ⟨gp, 0, none⟩), .int .i64 (j : Int), .string (S s), .int .i64 c] w (SamePost P w0 R gp b wn sh K d 1 1) := by
  have HP := Lib.hid (yput_arg h.rt ha hf hw hj s hs)
  have HIN := Lib.hid (fun W => kin_yes j hj W)
  have hl : ((s.length : Int) == 32) = false := by rw [beq_eq_false_iff_ne]; omega
  have hl2 : ((s.length : Int) != 32) = true := by rw [bne_iff_ne]; omega
  have HU := Lib.hid h
  clear h hs ha hf hw
  go_enter Tryz.func9, Tryz.ntmps9
  go_wp2_with fail
  refine HP.out.mono ?_
  rintro r w1 ⟨rfl, hr, hm⟩
  have HS := Lib.hid (HU.out.same hr hm)
  clear hr hm
  go_wp2_with fail
  refine (HIN.out _).mono ?_
  rintro r w2 ⟨rfl, rfl⟩
  go_wp2_with fail
  go_ret2
  exact ⟨rfl, HS.out⟩
theorem kput_there (h : KU P w0 w R gp b wn sh K d) (ha : d.acts < 900000000000) (hf : d.falls < 900000000000) (hw : wn < 1000000) {j : Nat} (hj : j < 8) (h0 : K j ≠ 0) (c : Nat) (cc : Int) :
    Calls Tryz.prog 9 #[.pointer (some ⟨R.rb, 0, none⟩), .pointer (some ⟨gp, 0, none⟩), .int .i64 (j : Int), .string (S (Key.keyT c)), .int .i64 cc] w (SamePost P w0 R gp b wn sh K d 25 25) := by
  have HP := Lib.hid (yput_there h.rt h.on ha hf hw (c := c) hj h0)
  have HIN := Lib.hid (fun W => kin_yes j hj W)
  have hl3 : ((Key.keyT c).length : Int) = 32 := by rw [Key.keyT_len]; rfl
  have hj8 : (j : Int) < 8 := by omega
  have hj0 : (0 : Int) ≤ (j : Int) := by omega
  have hk0 : ((K j : Int) == 0) = false := by rw [beq_eq_false_iff_ne]; omega
  have hk1 : ((K j : Int) != 0) = true := by rw [bne_iff_ne]; omega
  have HU := Lib.hid h
  clear h h0 ha hf hw
  generalize Key.keyT c = kt at *
  generalize hkk : K j = kj at hk0 hk1
  have HKK := Lib.hid hkk
  clear hkk
  go_enter Tryz.func9, Tryz.ntmps9
  go_wp2_with fail
  refine HP.out.mono ?_
  rintro r w1 ⟨rfl, hr, hm⟩
  have HS := Lib.hid (HU.out.same hr hm)
  clear hr hm
  have hc : w1.cell? ⟨gp, j, none⟩ = some (.int .i64 (kj : Int)) := by
    have := HS.out.pl.key j hj
    rw [HKK.out] at this
    exact this
  go_wp2_with fail
  refine (HIN.out _).mono ?_
  rintro r w2 ⟨rfl, rfl⟩
  go_wp2_with fail
  go_ret2
  exact ⟨rfl, HS.out⟩
theorem kshred_range (h : KU P w0 w R gp b wn sh K d) {i : Int} (hi : i < 0 ∨ 8 ≤ i) :
    Calls Tryz.prog 11 #[.pointer (some ⟨R.rb, 0, none⟩), .pointer (some ⟨gp, 0, none⟩), .int .i64 i] w (SamePost P w0 R gp b wn sh K d 5 5) := by
  have HP := Lib.hid (yshred_range h.rt hi)
  have HIN := Lib.hid (fun W => kin_no i hi W)
  have HU := Lib.hid h
  clear h hi
  go_enter Tryz.func11, Tryz.ntmps11
  go_wp2_with fail
  refine HP.out.mono ?_
  rintro r w1 ⟨rfl, rfl⟩
  go_wp2_with fail
  refine (HIN.out _).mono ?_
  rintro r w2 ⟨rfl, rfl⟩
  go_wp2_with fail
  go_ret2
  exact ⟨rfl, HU.out⟩
theorem kshred_free (h : KU P w0 w R gp b wn sh K d) (ha : d.acts < 900000000000) (hf : d.falls < 900000000000) (hsh : sh ≤ 1000000) {j : Nat} (hj : j < 8) (h0 : K j = 0) :
    Calls Tryz.prog 11 #[.pointer (some ⟨R.rb, 0, none⟩), .pointer (some ⟨gp, 0, none⟩), .int .i64 (j : Int)] w (SamePost P w0 R gp b wn sh K d 0 0) := by
  have HP := Lib.hid (yshred_free h.rt h.on ha hf hsh hj h0)
  have HIN := Lib.hid (fun W => kin_yes j hj W)
  have hj8 : (j : Int) < 8 := by omega
  have hj0 : (0 : Int) ≤ (j : Int) := by omega
  have HU := Lib.hid h
  have HK0 : Hid (K j = 0) := Lib.hid h0
  clear h h0 ha hf hsh
  go_enter Tryz.func11, Tryz.ntmps11
  go_wp2_with fail
  refine HP.out.mono ?_
  rintro r w1 ⟨rfl, hr, hm⟩
  have HS := Lib.hid (HU.out.same hr hm)
  clear hr hm
  have hc : w1.cell? ⟨gp, j, none⟩ = some (.int .i64 0) := by
    have := HS.out.pl.key j hj
    rw [HK0.out] at this
    exact this
  go_wp2_with fail
  refine (HIN.out _).mono ?_
  rintro r w2 ⟨rfl, rfl⟩
  go_wp2_with fail
  go_ret2
  exact ⟨rfl, HS.out⟩
set_option maxHeartbeats 2000000 in
theorem kshred_ok (h : KU P w0 w R gp b wn sh K d) (ha : d.acts < 900000000000) (hf : d.falls < 900000000000) (hsh : sh ≤ 1000000) {j : Nat} (hj : j < 8) (h0 : K j ≠ 0) :
    Calls Tryz.prog 11 #[.pointer (some ⟨R.rb, 0, none⟩), .pointer (some ⟨gp, 0, none⟩), .int .i64 (j : Int)] w (BothPost P w0 w R gp b wn sh (sh + 1) K j 0 d) := by
  have HP := Lib.hid (yshred_any h.rt h.on ha hf hsh hj h0)
  have HIN := Lib.hid (fun W => kin_yes j hj W)
  have HU := Lib.hid h
  have HON : Hid (K j ≠ 0) := Lib.hid h0
  have hj8 : (j : Int) < 8 := by omega
  have hj0 : (0 : Int) ≤ (j : Int) := by omega
  have hk0 : ((K j : Int) == 0) = false := by rw [beq_eq_false_iff_ne]; omega
  have hk1 : ((K j : Int) != 0) = true := by rw [bne_iff_ne]; omega
  have hs1 : IntKind.i64.wrap ((sh : Int) + 1) = (sh : Int) + 1 := by rw [IntKind.wrap_i64]; omega
  unfold RDone at HP
  clear h h0 ha hf
  generalize hkk : K j = kj at hk0 hk1
  have HKK := Lib.hid hkk
  clear hkk
  go_enter Tryz.func11, Tryz.ntmps11
  go_wp2_with fail
  refine HP.out.mono ?_
  rintro r w1 ⟨c', rfl, hm, d', hac, hfa, hr⟩
  have hpl := HU.out.pl.mv hm HU.out.no HU.out.nok
  have hcell : w1.cell? ⟨gp, j, none⟩ = some (.int .i64 (kj : Int)) := by
    have := hpl.key j hj
    rw [HKK.out] at this
    exact this
  have hfr := hpl.has.free j
  have hcs := hpl.shred
  have hfs := hpl.has.free 9
  have HPL := Lib.hid hpl
  have HM := Lib.hid hm
  have HAC := Lib.hid (And.intro hac hfa)
  clear hpl hm hac hfa
  rcases hr with ⟨rfl, wn', q1, q2, q3, q4⟩ | ⟨rfl, q1, q2, q3, q4, -⟩
  · have HQ := Lib.hid (And.intro q1 (And.intro q2 (And.intro q3 q4)))
    clear q1 q2 q3 q4
    go_wp2_with fail
    refine (HIN.out _).mono ?_
    rintro r w2 ⟨rfl, rfl⟩
    have hpl2 := (HPL.out.setKey j 0 hj).shred
    have hfr2 := (HPL.out.setKey j 0 hj).has.free 9
    go_wp2_with fail
    go_ret2
    have e1 := Mv.of_only (Only.set w2 gp j (.int .i64 ((0 : Nat) : Int))) (s := [gp]) (by simp)
    have e2 := Mv.of_only (Only.set (w2.setCell ⟨gp, j, none⟩ (.int .i64 ((0 : Nat) : Int))) gp 9 (.int .i64 ((sh + 1 : Nat) : Int))) (s := [gp]) (by simp)
    have hcast : ((sh + 1 : Nat) : Int) = (sh : Int) + 1 := by omega
    have hfin : KU P w0 ((w2.setCell ⟨gp, j, none⟩ (.int .i64 ((0 : Nat) : Int))).setCell ⟨gp, 9, none⟩ (.int .i64 ((sh + 1 : Nat) : Int))) R gp b wn' (sh + 1) (Key.upd K j 0) d' :=
      ⟨HQ.out.2.1.apart (e1.trans e2) (fun k hk => by rw [List.mem_singleton.1 hk]; exact HU.out.no) (fun k hk => by rw [List.mem_singleton.1 hk]; exact HU.out.lo), HQ.out.2.2.1, (HPL.out.setKey j 0 hj).setShred (sh + 1), HU.out.no, HU.out.nok, HU.out.lo, upd_le HU.out.kb (by decide)⟩
    rw [hcast] at hfin
    exact ⟨d', HAC.out.1, HAC.out.2, Or.inl ⟨rfl, wn', HQ.out.1, hfin, HQ.out.2.2.2⟩⟩
  · have HQ := Lib.hid (HU.out.dwn HM.out q1 q2 q3 q4 hj (Or.inr ⟨HON.out, rfl⟩) (by decide))
    clear q1 q2 q3 q4
    go_wp2_with fail
    refine (HIN.out _).mono ?_
    rintro r w2 ⟨rfl, rfl⟩
    go_wp2_with fail
    go_ret2
    exact ⟨d', HAC.out.1, HAC.out.2, Or.inr ⟨rfl, HQ.out⟩⟩
end
end Go.Proofs.YthadcmbbdggneaaGreatDoor

namespace Go.Proofs.YthadcmbbdggneaaGreatDoor
open Go.RowKit
set_option linter.unusedVariables false

def fi (o : Option Nat) : Int := match o with | some j => (j : Int) | none => -1
theorem firstOf_lt (K : Nat → Nat) : ∀ n j, firstOf K n = some j → j < 8 := by
  intro n
  induction n with
  | zero => intro j h; cases h
  | succ n ih =>
    intro j h
    unfold firstOf at h
    split at h
    · injection h with h; omega
    · exact ih j h
section
variable {P : Kp} {w0 w W W' : World} {R : RB} {gp b wn sh : Nat} {K : Nat → Nat} {d d' : Dsk.St}
set_option maxRecDepth 100000 in
set_option maxHeartbeats 8000000 in
theorem kstands_any (h : KU P w0 w R gp b wn sh K d) :
    Calls Tryz.prog 17 #[.pointer (some ⟨R.rb, 0, none⟩), .pointer (some ⟨gp, 0, none⟩)] w fun e w' => e = .returned (.bool true) ∧ Below w.heap.size w w' := by
  have HU := Lib.hid h
  have HGF : Hid (∀ (W : World) (j : Nat), Below w.heap.size w W → j < 8 → K j = 0 → Calls Tryz.prog 29 #[.pointer (some ⟨R.rb, 0, none⟩), .int .i64 (j : Int)] W fun e w' => e = .returned (.tuple #[.string (S []), .int .i64 7]) ∧ Below W.heap.size W w') := Lib.hid (fun W j hb hj h0 => by
    have hq := yget_free (K := K) (j := j) (h.rt.below hb) h.on hj h0
    exact hq)
  have HGK : Hid (∀ (W : World) (j : Nat), Below w.heap.size w W → j < 8 → K j ≠ 0 → Calls Tryz.prog 29 #[.pointer (some ⟨R.rb, 0, none⟩), .int .i64 (j : Int)] W fun e w' => e = .returned (.tuple #[.string (S (Key.keyT (K j))), .int .i64 0]) ∧ Below W.heap.size W w') := Lib.hid (fun W j hb hj h0 => by
    have hq := yget_key (K := K) (j := j) (h.rt.below hb) h.on hj h0
    exact hq)
  have HFR : Hid (∀ (W : World) (j : Nat), Below w.heap.size w W → j < 8 → Calls Tryz.prog 22 #[.pointer (some ⟨R.rb, 0, none⟩), .int .i64 (j : Int)] W fun e w' => e = .returned (.bool (decide (K j = 0))) ∧ Below W.heap.size W w') := Lib.hid (fun W j hb hj => by
    have hq := yfree_any (K := K) (j := j) (h.rt.below hb) h.on hj
    exact hq)
  have HFI : Hid (∀ W, Below w.heap.size w W → Calls Tryz.prog 30 #[.pointer (some ⟨R.rb, 0, none⟩)] W fun e w' => e = .returned (findV (firstOf K 8)) ∧ Below W.heap.size W w') := Lib.hid (fun W hb => yfind_any (h.rt.below hb) h.on)
  have HSL : Hid (∀ W n, Below w.heap.size w W → Calls Tryz.prog 21 #[.pointer (some ⟨R.rb, 0, none⟩)] (W.drewN n) fun e w' => e = .returned (.int .i64 8) ∧ w' = W.drewN n) := Lib.hid (fun W n hb => (rslots_any (h.rt.below (below_drewN hb n)).ring).mono (fun e w' ⟨he, hw⟩ => ⟨he, hw.symm⟩))
  have HSH : Hid (∀ W n, Below w.heap.size w W → Calls Tryz.prog 32 #[.pointer (some ⟨R.rb, 0, none⟩)] (W.drewN n) fun e w' => e = .returned (.int .i64 (sh : Int)) ∧ w' = W.drewN n) := Lib.hid (fun W n hb => (rshreds_any (h.rt.below (below_drewN hb n)).ring).mono (fun e w' ⟨he, hw⟩ => ⟨he, hw.symm⟩))
  have HPL : Hid (∀ W, Below w.heap.size w W → PlK P W gp K b sh) := Lib.hid (fun W hb => h.pl.below hb)
  have HKB := Lib.hid h.kb
  clear h
  go_enter Tryz.func17, Tryz.ntmps17
  go_wp2_with fail
  go_loopw [5, 6, 7, 8] (fun v5 v6 v7 v8 wr => ∃ n : Nat, n ≤ 8 ∧ v5 = .int .i64 (fi (firstOf K n)) ∧ v6 = .int .i64 ((7 : Int) - (n : Int)) ∧ Below w.heap.size w wr) (fun _ v6 _ _ _ => (vInt v6 + 1).toNat)
  case atStart => exact ⟨0, by decide, rfl, rfl, Below.refl _ _⟩
  case round =>
    obtain ⟨n, hn, rfl, rfl, hb⟩ := hrel
    by_cases hlt : n < 8
    · obtain ⟨j, hj⟩ : ∃ j, j = 7 - n := ⟨_, rfl⟩
      have hj8 : j < 8 := by omega
      have ej : (7 : Int) - (n : Int) = (j : Int) := by omega
      have ejn : (7 : Int) - ((n + 1 : Nat) : Int) = (j : Int) - 1 := by omega
      rw [ej]
      have hj0 : (0 : Int) ≤ (j : Int) := by omega
      have hji : (j : Int) < 8 := by omega
      have hwj : IntKind.i64.wrap ((j : Int) - 1) = (j : Int) - 1 := by rw [IntKind.wrap_i64]; omega
      have hfo : firstOf K (n + 1) = if K j = 0 then some j else firstOf K n := by rw [hj]; rfl
      have hck := (HPL.out wr hb).key j hj8
      have HC : Hid (∀ W, Below wr.heap.size wr W → W.cell? ⟨gp, j, none⟩ = some (.int .i64 (K j : Int))) := Lib.hid (fun W hbW => (HPL.out W (hb.trans (hbW.mono hb.size))).key j hj8)
      have HB := Lib.hid hb
      have HEJ := Lib.hid (And.intro ejn hfo)
      by_cases hk : K j = 0
      · have HG := Lib.hid (HGF.out wr j hb hj8 hk)
        have HF : Hid (∀ W, Below w.heap.size w W → Calls Tryz.prog 22 #[.pointer (some ⟨R.rb, 0, none⟩), .int .i64 (j : Int)] W fun e w' => e = .returned (.bool true) ∧ Below W.heap.size W w') := Lib.hid (fun W hbW => by
          have := HFR.out W j hbW hj8
          rw [decide_eq_true hk] at this
          exact this)
        rw [hk] at hck
        have HCZ : Hid (∀ W, Below wr.heap.size wr W → W.cell? ⟨gp, j, none⟩ = some (.int .i64 0)) := Lib.hid (fun W hbW => by
          have := HC.out W hbW
          rw [hk] at this
          exact this)
        have HFO : Hid (firstOf K (n + 1) = some j) := Lib.hid (by rw [hfo, if_pos hk])
        clear hb ej ejn hj hfo hk HC
        go_wp2_with fail
        refine HG.out.mono ?_
        rintro r w1 ⟨rfl, hb1⟩
        have hc1 := HCZ.out w1 hb1
        have HB1 := Lib.hid (HB.out.trans (hb1.mono HB.out.size))
        clear hb1 hck
        go_wp2_with fail
        refine (HF.out _ HB1.out).mono ?_
        rintro r w2 ⟨rfl, hb2⟩
        have HB2 := Lib.hid (HB1.out.trans (hb2.mono HB1.out.size))
        clear hb2
        go_wp2_with fail
        go_roundw
        · exact ⟨n + 1, by omega, by rw [HFO.out]; rfl, by rw [HEJ.out.1], HB2.out⟩
        · simp only [vInt]; omega
      · have HG := Lib.hid (HGK.out wr j hb hj8 hk)
        have HF : Hid (∀ W, Below w.heap.size w W → Calls Tryz.prog 22 #[.pointer (some ⟨R.rb, 0, none⟩), .int .i64 (j : Int)] W fun e w' => e = .returned (.bool false) ∧ Below W.heap.size W w') := Lib.hid (fun W hbW => by
          have := HFR.out W j hbW hj8
          rw [decide_eq_false hk] at this
          exact this)
        have HFO : Hid (firstOf K (n + 1) = firstOf K n) := Lib.hid (by rw [hfo, if_neg hk])
        have hkb := HKB.out j hj8
        have HKT := Lib.hid (fun W => key_any (K j) (by omega) W)
        unfold KeyPost at HKT
        have hk0 : ((K j : Int) == 0) = false := by rw [beq_eq_false_iff_ne]; omega
        have hku : IntKind.u8.wrap (K j : Int) = (K j : Int) := by
          show (K j : Int) % 256 = _
          omega
        have hkt : (Key.keyT (K j) == Key.keyT (K j)) = true := by rw [beq_self_eq_true]
        clear hb ej ejn hj hfo hk
        generalize Key.keyT (K j) = kt at *
        generalize K j = kj at *
        go_wp2_with fail
        refine HG.out.mono ?_
        rintro r w1 ⟨rfl, hb1⟩
        have hc1 := HC.out w1 hb1
        have HB1 := Lib.hid (HB.out.trans (hb1.mono HB.out.size))
        clear hb1 hck
        go_wp2_with fail
        refine (HKT.out _).mono ?_
        rintro r w3 ⟨rfl, hb3⟩
        have HB3 := Lib.hid (HB1.out.trans (hb3.mono HB1.out.size))
        clear hb3
        go_wp2_with fail
        refine (HF.out _ HB3.out).mono ?_
        rintro r w2 ⟨rfl, hb2⟩
        have HB2 := Lib.hid (HB3.out.trans (hb2.mono HB3.out.size))
        clear hb2
        go_wp2_with fail
        go_roundw
        · exact ⟨n + 1, by omega, by rw [HFO.out], by rw [HEJ.out.1], HB2.out⟩
        · simp only [vInt]; omega
    · obtain rfl : n = 8 := by omega
      have hend : ¬ (0 : Int) ≤ (7 : Int) - ((8 : Nat) : Int) := by decide
      have hl8 := firstOf_lt K 8
      generalize firstOf K 8 = o at hl8 HFI ⊢
      cases o with
      | none =>
        simp only [fi, findV] at HFI ⊢
        go_wp2_with fail
        refine (HFI.out _ hb).mono ?_
        rintro r w1 ⟨rfl, hb1⟩
        have HB1 := Lib.hid (hb.trans (hb1.mono hb.size))
        clear hb hb1 HFI
        go_upto_region 13 with fail
        have c9 := (HPL.out w1 HB1.out).shred
        go_quiet (first | exact Calls.quiet_of_same (HSL.out _ _ HB1.out) | exact Calls.quiet_of_same (HSH.out _ _ HB1.out))
        have HF : Hid (Below w.heap.size w (w1.drewN nq)) := Lib.hid (below_drewN HB1.out nq)
        go_wp2_with fail
        go_ret
        exact ⟨rfl, HF.out⟩
      | some j =>
        simp only [fi, findV] at HFI ⊢
        have hj := hl8 j rfl
        have hj0 : ¬ (j : Int) < 0 := by omega
        have hj1 : (0 : Int) ≤ (j : Int) := by omega
        have hjj : ((j : Int) == (j : Int)) = true := by rw [beq_self_eq_true]
        clear hl8
        go_wp2_with fail
        refine (HFI.out _ hb).mono ?_
        rintro r w1 ⟨rfl, hb1⟩
        have HB1 := Lib.hid (hb.trans (hb1.mono hb.size))
        clear hb hb1 HFI
        go_upto_region 13 with fail
        have hjn : ¬ (j : Int) < 0 := by omega
        have hjm : decide ((j : Int) < 0) = false := decide_eq_false hjn
        have c9 := (HPL.out w1 HB1.out).shred
        go_quiet (first | exact Calls.quiet_of_same (HSL.out _ _ HB1.out) | exact Calls.quiet_of_same (HSH.out _ _ HB1.out))
        have HF : Hid (Below w.heap.size w (w1.drewN nq)) := Lib.hid (below_drewN HB1.out nq)
        go_wp2_with fail
        go_ret
        exact ⟨rfl, HF.out⟩
end
end Go.Proofs.YthadcmbbdggneaaGreatDoor

namespace Go.Proofs.YthadcmbbdggneaaGreatDoor
open Go.RowKit
set_option linter.unusedVariables false

/-- A disk, and the document's ring beside it. -/
structure KW (P : Kp) (w0 W : World) (g bd mb gp b sh : Nat) (K : Nat → Nat) (d : Dsk.St) : Prop where
  dk : DiskAt W g bd mb d
  bel : Below w0.heap.size w0 W
  los : ∀ k ∈ [g, bd, mb], w0.heap.size ≤ k
  pl : PlK P W gp K b sh
  no : gp ∉ [g, bd, mb]
  nok : ∀ o t cs, P = some (o, t, cs) → o ∉ [g, bd, mb]
  lo : w0.heap.size ≤ gp
  kb : ∀ i, i < 8 → K i ≤ 200
/-- A ring that was made, and the document's beside it, whose keys are told apart. -/
structure KR (P : Kp) (w0 W : World) (R : RB) (gp b wn sh sp : Nat) (K : Nat → Nat) (d : Dsk.St) : Prop where
  rt : RAt w0 W R b wn sh d
  pl : PlK P W gp K b sp
  no : gp ∉ R.all
  nok : ∀ o t cs, P = some (o, t, cs) → o ∉ R.all
  lo : w0.heap.size ≤ gp
  kb : ∀ i, i < 8 → K i ≤ 200
section
variable {P : Kp} {w0 w W W' : World} {R : RB} {g bd mb gp b wn sh sp : Nat} {K : Nat → Nat} {d d' : Dsk.St}
theorem KU.kw (h : KU P w0 W R gp b wn sh K d) : KW P w0 W R.g R.bd R.mb gp b sh K d :=
  ⟨h.rt.ring.grd.disk, h.rt.bel, fun k hk => h.rt.los k (by unfold RB.all; simp only [List.mem_cons, List.not_mem_nil, or_false] at hk ⊢; omega), h.pl, fun hn => h.no (by unfold RB.all; simp only [List.mem_cons, List.not_mem_nil, or_false] at hn ⊢; omega), fun o t cs e hn => h.nok o t cs e (by unfold RB.all; simp only [List.mem_cons, List.not_mem_nil, or_false] at hn ⊢; omega), h.lo, h.kb⟩
theorem KD.kw {j c : Nat} (h : KD P w0 W g bd mb gp b sh K j c d) : KW P w0 W g bd mb gp b sh K d := ⟨h.dk, h.bel, h.los, h.pl, h.no, h.nok, h.lo, h.kb⟩
theorem KW.below (h : KW P w0 W g bd mb gp b sh K d) (hb : Below W.heap.size W W') : KW P w0 W' g bd mb gp b sh K d := ⟨h.dk.below hb, h.bel.trans (hb.mono h.bel.size), h.los, h.pl.below hb, h.no, h.nok, h.lo, h.kb⟩
theorem KW.dsk (h : KW P w0 W g bd mb gp b sh K d) (hd : DiskAt W' g bd mb d') (hm : Mv W W' [g, bd, mb]) : KW P w0 W' g bd mb gp b sh K d' := ⟨hd, hm.below h.bel h.bel.size h.los, h.los, h.pl.mv hm h.no h.nok, h.no, h.nok, h.lo, h.kb⟩
theorem KW.cells (h : KW P w0 W g bd mb gp b sh K d) (i : Nat) (v : Value) {b' sh' : Nat} {K' : Nat → Nat} (hp : PlK P (W.setCell ⟨gp, i, none⟩ v) gp K' b' sh') (hk : ∀ i, i < 8 → K' i ≤ 200) : KW P w0 (W.setCell ⟨gp, i, none⟩ v) g bd mb gp b' sh' K' d := by
  have hm := Mv.of_only (Only.set W gp i v) (s := [gp]) (by simp)
  have hn := h.no
  simp only [List.mem_cons, List.not_mem_nil, or_false, not_or] at hn
  exact ⟨h.dk.mv hm (by simp; omega) (by simp; omega) (by simp; omega), hm.below h.bel h.bel.size (fun x hx => by rw [List.mem_singleton.1 hx]; exact h.lo), h.los, hp, h.no, h.nok, h.lo, hk⟩
theorem KW.ring (h : KW P w0 W g bd mb gp b sh K d) (hr : RAt w0 W' R b wn 0 d) (hb : Below W.heap.size W W') (h1 : R.g = g) (h2 : R.bd = bd) (h3 : R.mb = mb) (hl : ∀ k ∈ [R.rb, R.gg], W.heap.size ≤ k) : KR P w0 W' R gp b wn 0 sh K d := by
  have l1 := hl R.rb (by simp)
  have l2 := hl R.gg (by simp)
  have lg := h.pl.has.lt
  have hn := h.no
  refine ⟨hr, h.pl.below hb, fun hx => ?_, fun o t cs e hx => ?_, h.lo, h.kb⟩
  · unfold RB.all at hx
    rw [h1, h2, h3] at hx
    simp only [List.mem_cons, List.not_mem_nil, or_false, not_or] at hx hn
    omega
  · have lo := (h.pl.kp o t cs e).1.lt
    have ho := h.nok o t cs e
    unfold RB.all at hx
    rw [h1, h2, h3] at hx
    simp only [List.mem_cons, List.not_mem_nil, or_false, not_or] at hx ho
    omega
theorem KR.below (h : KR P w0 W R gp b wn sh sp K d) (hb : Below W.heap.size W W') : KR P w0 W' R gp b wn sh sp K d := ⟨h.rt.below hb, h.pl.below hb, h.no, h.nok, h.lo, h.kb⟩
theorem KR.cells (h : KR P w0 W R gp b wn sh sp K d) (i : Nat) (v : Value) {sp' : Nat} {K' : Nat → Nat} (hp : PlK P (W.setCell ⟨gp, i, none⟩ v) gp K' b sp') (hk : ∀ i, i < 8 → K' i ≤ 200) : KR P w0 (W.setCell ⟨gp, i, none⟩ v) R gp b wn sh sp' K' d :=
  ⟨h.rt.apart (Mv.of_only (Only.set W gp i v) (s := [gp]) (by simp)) (fun x hx => by rw [List.mem_singleton.1 hx]; exact h.no) (fun x hx => by rw [List.mem_singleton.1 hx]; exact h.lo), hp, h.no, h.nok, h.lo, hk⟩
theorem KR.key (h : KR P w0 W R gp b wn sh sp K d) (j c : Nat) (hj : j < 8) (hc : c ≤ 200) : KR P w0 (W.setCell ⟨gp, j, none⟩ (.int .i64 (c : Int))) R gp b wn sh sp (Key.upd K j c) d := h.cells j _ (h.pl.setKey j c hj) (upd_le h.kb hc)
theorem KR.count (h : KR P w0 W R gp b wn sh sp K d) (s : Nat) : KR P w0 (W.setCell ⟨gp, 9, none⟩ (.int .i64 (s : Int))) R gp b wn sh s K d := h.cells 9 _ (h.pl.setShred s) h.kb
theorem KR.turned (h : KR P w0 W R gp b wn sh sp K d) {wn' sh' : Nat} (hr : RAt w0 W' R b wn' sh' d') (hm : Mv W W' R.all) : KR P w0 W' R gp b wn' sh' sp K d' := ⟨hr, h.pl.mv hm h.no h.nok, h.no, h.nok, h.lo, h.kb⟩
theorem KR.up (h : KR P w0 W R gp b wn sh sh K d) {K' : Nat → Nat} (hk : Key.KOn K' d) (he : ∀ i, i < 8 → K' i = K i) : KU P w0 W R gp b wn sh K' d :=
  ⟨h.rt, hk, h.pl.cells he, h.no, h.nok, h.lo, fun i hi => by rw [he i hi]; exact h.kb i hi⟩
/-- A disk that goes again. -/
def again0 (d : Dsk.St) (f : Dsk.Fall) : Dsk.St := (Dsk.start (Dsk.calm (Dsk.crash d f).2)).2
theorem again_up (hu : d.up = true) (f : Dsk.Fall) : (Dsk.start (Dsk.calm (Dsk.crash d f).2)).1 = 0 ∧ (again0 d f).secs = (Dsk.fall f d).secs ∧ (again0 d f).up = true ∧ (again0 d f).arm = none ∧ (again0 d f).acts = d.acts ∧ (again0 d f).falls = d.falls + 1 := by
  unfold again0 Dsk.crash
  rw [if_neg (by rw [hu]; decide)]
  refine ⟨rfl, rfl, rfl, rfl, rfl, rfl⟩
theorem again_down (hu : d.up = false) (f : Dsk.Fall) : (Dsk.start (Dsk.calm (Dsk.crash d f).2)).1 = 0 ∧ (again0 d f).secs = d.secs ∧ (again0 d f).up = true ∧ (again0 d f).arm = none ∧ (again0 d f).acts = d.acts ∧ (again0 d f).falls = d.falls := by
  unfold again0 Dsk.crash
  rw [if_pos hu]
  unfold Dsk.calm Dsk.start
  dsimp only
  rw [if_neg (by rw [hu]; decide)]
  exact ⟨rfl, rfl, rfl, rfl, rfl, rfl⟩
/-- What a ring that is made anew is. -/
def AgainPost (P : Kp) (w0 : World) (g bd mb gp b A F : Nat) (e : Ending) (w' : World) : Prop :=
  ∃ (R : RB) (sh : Nat) (K : Nat → Nat) (d : Dsk.St), R.g = g ∧ R.bd = bd ∧ R.mb = mb ∧ e = .returned (.pointer (some ⟨R.rb, 0, none⟩)) ∧ KU P w0 w' R gp b 0 sh K d ∧ sh ≤ 1 ∧ d.acts ≤ A ∧ d.falls ≤ F
end
end Go.Proofs.YthadcmbbdggneaaGreatDoor

namespace Go.Proofs.YthadcmbbdggneaaGreatDoor
open Go.RowKit
set_option linter.unusedVariables false

section
variable {P : Kp} {w0 w W W' : World} {R : RB} {g bd mb gp b wn sh sp : Nat} {K : Nat → Nat} {d d' : Dsk.St}
theorem run_key0 (c : Nat) (hc : c < 256) (W : World) : (Instr.index 9 (.string (S (Key.keyT c))) (.int .i64 0)).run Tryz.prog W = .ok (.int .u8 (c : Int)) W := by
  have h := run_index_S (P := Tryz.prog) W (t := 9) (Key.keyT c) .i64 0 Tryz.underlying9 (by rw [Key.keyT_len]; decide)
  have e : ((Key.keyT c)[0]'(by rw [Key.keyT_len]; decide)).toNat = c := by
    have : (Key.keyT c)[0]'(by rw [Key.keyT_len]; decide) = UInt8.ofNat c := by
      unfold Key.keyT
      rw [List.getElem_replicate]
    rw [this, UInt8.toNat_ofNat']
    omega
  rw [e] at h
  exact h
set_option maxRecDepth 100000 in
set_option maxHeartbeats 4000000 in
theorem kagain_up (h : KU P w0 w R gp b wn sh K d) (hb2 : b + 1 ≤ 2147483647) (f : Dsk.Fall) (hf : Fok f) (hfl : d.falls < 900000000000) :
    Calls Tryz.prog 14 #[.pointer (some ⟨R.g, 0, none⟩), .pointer (some ⟨gp, 0, none⟩), .agg #[.int .u64 (f.keep : Int), .int .i64 f.tear], .int .i64 (-1), .int .i64 0] w (AgainPost P w0 R.g R.bd R.mb gp (b + 1) d.acts (d.falls + 1)) := by
  obtain ⟨a1, a2, a3, a4, a5, a6⟩ := again_up h.rt.up f
  have hon : Key.KOn K (again0 d f) := (Key.fall_none h.on f).same a2
  have hW := h.kw
  have hlen := hon.len
  obtain ⟨g, hg⟩ : ∃ g, g = R.g := ⟨_, rfl⟩
  obtain ⟨bd, hbd⟩ : ∃ bd, bd = R.bd := ⟨_, rfl⟩
  obtain ⟨mb, hmb⟩ : ∃ mb, mb = R.mb := ⟨_, rfl⟩
  rw [← hg, ← hbd, ← hmb] at hW ⊢
  have hb1 : 1 ≤ b := h.rt.ring.grd.lo
  have HCR : Hid (∀ (W : World), KW P w0 W g bd mb gp b sh K d → Calls Tryz.prog 27 #[.pointer (some ⟨g, 0, none⟩), .agg #[.int .u64 (f.keep : Int), .int .i64 f.tear]] W fun e w' => (∃ c, e = .returned (.int .i64 c)) ∧ KW P w0 w' g bd mb gp b sh K (Dsk.crash d f).2) :=
    Lib.hid (fun W hW => (crash_any hW.dk (by omega) f hf).mono (fun e w' hp => ⟨⟨_, hp.1⟩, hW.dsk hp.2.1 hp.2.2⟩))
  have HCA : Hid (∀ (W : World), KW P w0 W g bd mb gp b sh K (Dsk.crash d f).2 → Calls Tryz.prog 12 #[.pointer (some ⟨g, 0, none⟩)] W fun e w' => e = .returned (.tuple #[]) ∧ KW P w0 w' g bd mb gp b sh K (Dsk.calm (Dsk.crash d f).2)) :=
    Lib.hid (fun W hW => (calm_any hW.dk).mono (fun e w' hp => ⟨hp.1, hW.dsk hp.2.1 hp.2.2⟩))
  have HST : Hid (∀ (W : World), KW P w0 W g bd mb gp b sh K (Dsk.calm (Dsk.crash d f).2) → Calls Tryz.prog 28 #[.pointer (some ⟨g, 0, none⟩)] W fun e w' => e = .returned (.int .i64 0) ∧ KW P w0 w' g bd mb gp b sh K (again0 d f)) :=
    Lib.hid (fun W hW => (start_any hW.dk).mono (fun e w' hp => ⟨by rw [hp.1, a1], hW.dsk hp.2.1 hp.2.2⟩))
  have HMK : Hid (∀ (W : World), KW P w0 W g bd mb gp (b + 1) 0 K (again0 d f) → Calls Tryz.prog 8 #[.pointer (some ⟨g, 0, none⟩), .int .i64 ((b : Int) + 1)] W fun e w' => ∃ R : RB, R.g = g ∧ R.bd = bd ∧ R.mb = mb ∧ e = .returned (.pointer (some ⟨R.rb, 0, none⟩)) ∧ KR P w0 w' R gp (b + 1) 0 0 0 K (again0 d f)) :=
    Lib.hid (fun W hW => by
      have hq := ymade_any (b := b + 1) hW.dk hW.bel hW.los a3 hlen (by omega) hb2
      have e : ((b + 1 : Nat) : Int) = (b : Int) + 1 := by omega
      rw [e] at hq
      exact hq.mono (fun e w' ⟨R, q1, q2, q3, q4, q5, q6, q7⟩ => ⟨R, q1, q2, q3, q4, hW.ring q5 q6 q1 q2 q3 q7⟩))
  have HIN := Lib.hid (fun W => kin_no (-1) (by omega) W)
  have H := Lib.hid hW
  have HON := Lib.hid hon
  have HLE := Lib.hid (And.intro a5 a6)
  have hinc : IntKind.i64.wrap ((b : Int) + 1) = (b : Int) + 1 := by rw [IntKind.wrap_i64]; omega
  unfold AgainPost
  clear h hW hon hlen hfl hf hb2 hb1 a1 a2 a3 a4 a5 a6 hg hbd hmb
  generalize again0 d f = d3 at HST HMK HON HLE
  generalize (Dsk.crash d f).2 = e1 at HCR HCA HST
  generalize Dsk.calm e1 = e2 at HCA HST
  go_enter Tryz.func14, Tryz.ntmps14
  go_wp2_with fail
  have H0 := Lib.hid (H.out.below ((Below.refl _ w).alloc (Nat.le_refl _) (.cells #[.int .u64 (f.keep : Int), .int .i64 f.tear] 36)))
  refine (HCR.out _ H0.out).mono ?_
  rintro r w1 ⟨⟨c, rfl⟩, h⟩
  replace H0 := Lib.hid h
  clear h H HCR
  go_wp2_with fail
  refine (HCA.out _ H0.out).mono ?_
  rintro r w2 ⟨rfl, h⟩
  replace H0 := Lib.hid h
  clear h HCA
  go_wp2_with fail
  refine (HST.out _ H0.out).mono ?_
  rintro r w3 ⟨rfl, h⟩
  replace H0 := Lib.hid h
  clear h HST
  have c8 := H0.out.pl.bootAt
  have f8 := H0.out.pl.has.free 8
  have hS1 : KW P w0 (w3.setCell ⟨gp, 8, none⟩ (.int .i64 ((b + 1 : Nat) : Int))) g bd mb gp (b + 1) sh K d3 := H0.out.cells 8 _ (H0.out.pl.setBoot (b + 1)) H0.out.kb
  have hS2 : KW P w0 ((w3.setCell ⟨gp, 8, none⟩ (.int .i64 ((b + 1 : Nat) : Int))).setCell ⟨gp, 9, none⟩ (.int .i64 ((0 : Nat) : Int))) g bd mb gp (b + 1) 0 K d3 := hS1.cells 9 _ (hS1.pl.setShred 0) hS1.kb
  have e : ((b + 1 : Nat) : Int) = (b : Int) + 1 := by omega
  rw [e] at hS1 hS2
  have c9 := hS1.pl.shred
  have f9 := hS1.pl.has.free 9
  have c8' := hS2.pl.bootAt
  rw [e] at c8'
  have HS2 := Lib.hid hS2
  clear hS1 hS2 e
  go_wp2_with fail
  refine (HMK.out _ HS2.out).mono ?_
  rintro r w4 ⟨R', r1, r2, r3, rfl, hr⟩
  have HR := Lib.hid hr
  have HE := Lib.hid (And.intro r1 (And.intro r2 r3))
  clear hr r1 r2 r3 HMK
  go_wp2_with fail
  refine (HIN.out _).mono ?_
  rintro r w5 ⟨rfl, rfl⟩
  go_wp2_with fail
  go_ret
  exact ⟨R', 0, K, d3, HE.out.1, HE.out.2.1, HE.out.2.2, rfl, HR.out.up HON.out (fun _ _ => rfl), by decide, by rw [HLE.out.1]; exact Nat.le_refl _, by rw [HLE.out.2]; exact Nat.le_refl _⟩
set_option maxRecDepth 100000 in
set_option maxHeartbeats 4000000 in
theorem kagain_down {j c : Nat} (h : KD P w0 w g bd mb gp b sh K j c d) (hb1 : 1 ≤ b) (hb2 : b + 1 ≤ 2147483647) (f : Dsk.Fall) (hf : Fok f) (ha : d.acts < 900000000000) (hfl : d.falls < 900000000000) :
    Calls Tryz.prog 14 #[.pointer (some ⟨g, 0, none⟩), .pointer (some ⟨gp, 0, none⟩), .agg #[.int .u64 (f.keep : Int), .int .i64 f.tear], .int .i64 (j : Int), .int .i64 (c : Int)] w (AgainPost P w0 g bd mb gp (b + 1) (d.acts + 2) d.falls) := by
  obtain ⟨a1, a2, a3, a4, a5, a6⟩ := again_down h.up f
  have hcs := (h.mid.same a2).cases
  have hW := h.kw
  have hlen : (again0 d f).secs.length = 20 := by rw [a2]; exact h.mid.len
  have HCR : Hid (∀ (W : World), KW P w0 W g bd mb gp b sh K d → Calls Tryz.prog 27 #[.pointer (some ⟨g, 0, none⟩), .agg #[.int .u64 (f.keep : Int), .int .i64 f.tear]] W fun e w' => (∃ c, e = .returned (.int .i64 c)) ∧ KW P w0 w' g bd mb gp b sh K (Dsk.crash d f).2) :=
    Lib.hid (fun W hW => (crash_any hW.dk (by omega) f hf).mono (fun e w' hp => ⟨⟨_, hp.1⟩, hW.dsk hp.2.1 hp.2.2⟩))
  have HCA : Hid (∀ (W : World), KW P w0 W g bd mb gp b sh K (Dsk.crash d f).2 → Calls Tryz.prog 12 #[.pointer (some ⟨g, 0, none⟩)] W fun e w' => e = .returned (.tuple #[]) ∧ KW P w0 w' g bd mb gp b sh K (Dsk.calm (Dsk.crash d f).2)) :=
    Lib.hid (fun W hW => (calm_any hW.dk).mono (fun e w' hp => ⟨hp.1, hW.dsk hp.2.1 hp.2.2⟩))
  have HST : Hid (∀ (W : World), KW P w0 W g bd mb gp b sh K (Dsk.calm (Dsk.crash d f).2) → Calls Tryz.prog 28 #[.pointer (some ⟨g, 0, none⟩)] W fun e w' => e = .returned (.int .i64 0) ∧ KW P w0 w' g bd mb gp b sh K (again0 d f)) :=
    Lib.hid (fun W hW => (start_any hW.dk).mono (fun e w' hp => ⟨by rw [hp.1, a1], hW.dsk hp.2.1 hp.2.2⟩))
  have HMK : Hid (∀ (W : World), KW P w0 W g bd mb gp (b + 1) 0 K (again0 d f) → Calls Tryz.prog 8 #[.pointer (some ⟨g, 0, none⟩), .int .i64 ((b : Int) + 1)] W fun e w' => ∃ R : RB, R.g = g ∧ R.bd = bd ∧ R.mb = mb ∧ e = .returned (.pointer (some ⟨R.rb, 0, none⟩)) ∧ KR P w0 w' R gp (b + 1) 0 0 0 K (again0 d f)) :=
    Lib.hid (fun W hW => by
      have hq := ymade_any (b := b + 1) hW.dk hW.bel hW.los a3 hlen (by omega) hb2
      have e : ((b + 1 : Nat) : Int) = (b : Int) + 1 := by omega
      rw [e] at hq
      exact hq.mono (fun e w' ⟨R, q1, q2, q3, q4, q5, q6, q7⟩ => ⟨R, q1, q2, q3, q4, hW.ring q5 q6 q1 q2 q3 q7⟩))
  have HIN := Lib.hid (fun W => kin_yes j h.hj W)
  have H := Lib.hid hW
  have HCS := Lib.hid hcs
  have HJ := Lib.hid h.hj
  have HON := Lib.hid h.on
  have HCB := Lib.hid h.cb
  have HKB := Lib.hid h.kb
  have HUA := Lib.hid (And.intro a3 (And.intro a4 (And.intro (show (again0 d f).acts < 900000000000 by omega) (show (again0 d f).falls < 900000000000 by omega))))
  have HLE := Lib.hid (And.intro a5 a6)
  have hinc : IntKind.i64.wrap ((b : Int) + 1) = (b : Int) + 1 := by rw [IntKind.wrap_i64]; omega
  unfold AgainPost
  clear h hW hcs hlen hfl hf hb2 hb1 a1 a2 a3 a4 a5 a6 ha
  generalize again0 d f = d3 at HST HMK HCS HLE HUA
  generalize (Dsk.crash d f).2 = e1 at HCR HCA HST
  generalize Dsk.calm e1 = e2 at HCA HST
  go_enter Tryz.func14, Tryz.ntmps14
  go_wp2_with fail
  have H0 := Lib.hid (H.out.below ((Below.refl _ w).alloc (Nat.le_refl _) (.cells #[.int .u64 (f.keep : Int), .int .i64 f.tear] 36)))
  refine (HCR.out _ H0.out).mono ?_
  rintro r w1 ⟨⟨cc, rfl⟩, h⟩
  replace H0 := Lib.hid h
  clear h H HCR
  go_wp2_with fail
  refine (HCA.out _ H0.out).mono ?_
  rintro r w2 ⟨rfl, h⟩
  replace H0 := Lib.hid h
  clear h HCA
  go_wp2_with fail
  refine (HST.out _ H0.out).mono ?_
  rintro r w3 ⟨rfl, h⟩
  replace H0 := Lib.hid h
  clear h HST
  have c8 := H0.out.pl.bootAt
  have f8 := H0.out.pl.has.free 8
  have hS1 : KW P w0 (w3.setCell ⟨gp, 8, none⟩ (.int .i64 ((b + 1 : Nat) : Int))) g bd mb gp (b + 1) sh K d3 := H0.out.cells 8 _ (H0.out.pl.setBoot (b + 1)) H0.out.kb
  have hS2 : KW P w0 ((w3.setCell ⟨gp, 8, none⟩ (.int .i64 ((b + 1 : Nat) : Int))).setCell ⟨gp, 9, none⟩ (.int .i64 ((0 : Nat) : Int))) g bd mb gp (b + 1) 0 K d3 := hS1.cells 9 _ (hS1.pl.setShred 0) hS1.kb
  have e : ((b + 1 : Nat) : Int) = (b : Int) + 1 := by omega
  rw [e] at hS1 hS2
  have c9 := hS1.pl.shred
  have f9 := hS1.pl.has.free 9
  have c8' := hS2.pl.bootAt
  rw [e] at c8'
  have HS2 := Lib.hid hS2
  clear hS1 hS2 e
  go_wp2_with fail
  refine (HMK.out _ HS2.out).mono ?_
  rintro r w4 ⟨R', r1, r2, r3, rfl, hr⟩
  have HR := Lib.hid hr
  have HE := Lib.hid (And.intro r1 (And.intro r2 r3))
  clear hr r1 r2 r3 HMK
  go_wp2_with fail
  refine (HIN.out _).mono ?_
  rintro r w5 ⟨rfl, rfl⟩
  have hjj := HJ.out
  have hj8 : (j : Int) < 8 := by omega
  have hj0 : (0 : Int) ≤ (j : Int) := by omega
  have hcw : w5.cell? ⟨gp, j, none⟩ = some (.int .i64 (K j : Int)) := HR.out.pl.key j hjj
  have hfw := HR.out.pl.has.free j
  clear c8 f8 c9 f9 c8' HS2 H0 HIN hinc
  have HKJ : Hid (∃ x, x = K j) := Lib.hid ⟨_, rfl⟩
  rcases HCS.out with hk | hk | hk
  · by_cases hz : K j = 0
    · have HG := Lib.hid (yget_free (w := w5) HR.out.rt hk hjj hz)
      rw [hz] at hcw
      have HF : Hid (∀ W, Below w5.heap.size w5 W → KU P w0 (W.setCell ⟨gp, j, none⟩ (.int .i64 ((0 : Nat) : Int))) R' gp (b + 1) 0 0 K d3) := Lib.hid (fun W hb => ((HR.out.below hb).key j 0 hjj (by decide)).up hk (fun i hi => by
        unfold Key.upd
        split
        · rename_i e; rw [e, hz]
        · rfl))
      have HC : Hid (∀ W, Below w5.heap.size w5 W → W.cell? ⟨gp, j, none⟩ = some (.int .i64 0) ∧ W.frozen? ⟨gp, j, none⟩ = false) := Lib.hid (fun W hb => ⟨by
        have := (HR.out.below hb).pl.key j hjj
        rw [hz] at this
        exact this, (HR.out.below hb).pl.has.free j⟩)
      clear hcw hfw hk hz HCS HKJ HR HUA HON HCB HKB hjj HJ
      go_wp2_with fail
      refine HG.out.mono ?_
      rintro r w6 ⟨rfl, hb⟩
      obtain ⟨c1, f1⟩ := HC.out w6 hb
      have HF2 := Lib.hid (HF.out w6 hb)
      clear hb HF HC HG
      go_wp2_with fail
      go_ret
      exact ⟨R', 0, K, d3, HE.out.1, HE.out.2.1, HE.out.2.2, rfl, HF2.out, by decide, by have := HLE.out; omega, by have := HLE.out; omega⟩
    · have hc0 : c = 0 := by
        rcases HON.out with h | h
        · exact absurd h.1 hz
        · exact h.2
      have hkb := HKB.out j hjj
      have HG := Lib.hid (yget_key (w := w5) HR.out.rt hk hjj hz)
      have HF : Hid (∀ W, Below w5.heap.size w5 W → KU P w0 (W.setCell ⟨gp, j, none⟩ (.int .i64 (K j : Int))) R' gp (b + 1) 0 0 K d3) := Lib.hid (fun W hb => ((HR.out.below hb).key j (K j) hjj hkb).up hk (fun i hi => by
        unfold Key.upd
        split
        · rename_i e; rw [e]
        · rfl))
      have HC : Hid (∀ W, Below w5.heap.size w5 W → W.cell? ⟨gp, j, none⟩ = some (.int .i64 (K j : Int)) ∧ W.frozen? ⟨gp, j, none⟩ = false) := Lib.hid (fun W hb => ⟨(HR.out.below hb).pl.key j hjj, (HR.out.below hb).pl.has.free j⟩)
      have HKT := Lib.hid (fun W => key_any (K j) (by omega) W)
      unfold KeyPost at HKT
      have HIX := run_key0 (K j) (by omega)
      have hkj0 : (0 : Int) < (K j : Int) := by omega
      have hku : IntKind.u8.wrap (K j : Int) = (K j : Int) := by
        show (K j : Int) % 256 = _
        omega
      have hki : IntKind.i64.wrap (K j : Int) = (K j : Int) := by rw [IntKind.wrap_i64]; omega
      have hkt : (Key.keyT (K j) == Key.keyT (K j)) = true := by rw [beq_self_eq_true]
      clear hcw hfw hk hz HCS HKJ HR HUA HON HCB HKB hjj HJ hc0 hkb
      generalize Key.keyT (K j) = kt at *
      generalize hkk : (K j : Int) = kj at *
      clear hkk
      go_wp2_with fail
      refine HG.out.mono ?_
      rintro r w6 ⟨rfl, hb⟩
      obtain ⟨c1, f1⟩ := HC.out w6 hb
      have HB := Lib.hid hb
      clear hb HG
      go_wp2_with fail
      refine (HKT.out _).mono ?_
      rintro r w7 ⟨rfl, hb⟩
      have HB7 := Lib.hid (HB.out.trans (hb.mono HB.out.size))
      obtain ⟨c2, f2⟩ := HC.out w7 HB7.out
      have HF2 := Lib.hid (HF.out w7 HB7.out)
      clear hb HF HC c1 f1
      go_wp2_with fail
      go_region
      go_wp2_with fail
      go_ret
      exact ⟨R', 0, K, d3, HE.out.1, HE.out.2.1, HE.out.2.2, rfl, HF2.out.below (Below.refl _ _).drew, by decide, by have := HLE.out; omega, by have := HLE.out; omega⟩
  · by_cases hz : c = 0
    · subst hz
      have hkn : K j ≠ 0 := by
        rcases HON.out with h | h
        · exact absurd rfl h.2
        · exact h.1
      have HG := Lib.hid (yget_free (w := w5) HR.out.rt hk hjj (by unfold Key.upd; rw [if_pos rfl]))
      have HF : Hid (∀ W, Below w5.heap.size w5 W → KU P w0 (W.setCell ⟨gp, j, none⟩ (.int .i64 ((0 : Nat) : Int))) R' gp (b + 1) 0 0 (Key.upd K j 0) d3) := Lib.hid (fun W hb => ((HR.out.below hb).key j 0 hjj (by decide)).up hk (fun i hi => rfl))
      have HC : Hid (∀ W, Below w5.heap.size w5 W → W.cell? ⟨gp, j, none⟩ = some (.int .i64 (K j : Int)) ∧ W.frozen? ⟨gp, j, none⟩ = false) := Lib.hid (fun W hb => ⟨(HR.out.below hb).pl.key j hjj, (HR.out.below hb).pl.has.free j⟩)
      have hk0 : ((K j : Int) == 0) = false := by rw [beq_eq_false_iff_ne]; omega
      clear hcw hfw hk HCS HKJ HR HUA HON HCB HKB hjj HJ hkn
      generalize hkk : (K j : Int) = kj at hk0 HC
      clear hkk
      go_wp2_with fail
      refine HG.out.mono ?_
      rintro r w6 ⟨rfl, hb⟩
      obtain ⟨c1, f1⟩ := HC.out w6 hb
      have HF2 := Lib.hid (HF.out w6 hb)
      clear hb HF HC HG
      go_wp2_with fail
      go_ret
      exact ⟨R', 0, _, d3, HE.out.1, HE.out.2.1, HE.out.2.2, rfl, HF2.out, by decide, by have := HLE.out; omega, by have := HLE.out; omega⟩
    · have hkn : K j = 0 := by
        rcases HON.out with h | h
        · exact h.1
        · exact absurd h.2 hz
      have hcb := HCB.out
      have hun : Key.upd K j c j = c := by unfold Key.upd; rw [if_pos rfl]
      have HG := Lib.hid (yget_key (w := w5) HR.out.rt hk hjj (by rw [hun]; exact hz))
      rw [hun] at HG
      have HF : Hid (∀ W, Below w5.heap.size w5 W → KU P w0 (W.setCell ⟨gp, j, none⟩ (.int .i64 (c : Int))) R' gp (b + 1) 0 0 (Key.upd K j c) d3) := Lib.hid (fun W hb => ((HR.out.below hb).key j c hjj hcb).up hk (fun i hi => rfl))
      have HC : Hid (∀ W, Below w5.heap.size w5 W → W.cell? ⟨gp, j, none⟩ = some (.int .i64 0) ∧ W.frozen? ⟨gp, j, none⟩ = false) := Lib.hid (fun W hb => ⟨by
        have := (HR.out.below hb).pl.key j hjj
        rw [hkn] at this
        exact this, (HR.out.below hb).pl.has.free j⟩)
      have HKT := Lib.hid (fun W => key_any c (by omega) W)
      unfold KeyPost at HKT
      have HIX := run_key0 c (by omega)
      have hkj0 : (0 : Int) < (c : Int) := by omega
      have hku : IntKind.u8.wrap (c : Int) = (c : Int) := by
        show (c : Int) % 256 = _
        omega
      have hki : IntKind.i64.wrap (c : Int) = (c : Int) := by rw [IntKind.wrap_i64]; omega
      have hkt : (Key.keyT c == Key.keyT c) = true := by rw [beq_self_eq_true]
      clear hcw hfw hk hz HCS HKJ HR HUA HON HCB HKB hjj HJ hkn hcb hun
      generalize Key.keyT c = kt at *
      generalize hcc : (c : Int) = kj at *
      go_wp2_with fail
      refine HG.out.mono ?_
      rintro r w6 ⟨rfl, hb⟩
      obtain ⟨c1, f1⟩ := HC.out w6 hb
      have HB := Lib.hid hb
      clear hb HG
      go_wp2_with fail
      refine (HKT.out _).mono ?_
      rintro r w7 ⟨rfl, hb⟩
      have HB7 := Lib.hid (HB.out.trans (hb.mono HB.out.size))
      obtain ⟨c2, f2⟩ := HC.out w7 HB7.out
      have HF2 := Lib.hid (HF.out w7 HB7.out)
      clear hb HF HC c1 f1
      go_wp2_with fail
      go_region
      go_wp2_with fail
      go_ret
      exact ⟨R', 0, _, d3, HE.out.1, HE.out.2.1, HE.out.2.2, rfl, HF2.out.below (Below.refl _ _).drew, by decide, by have := HLE.out; omega, by have := HLE.out; omega⟩
  · have HG := Lib.hid (yget_torn (w := w5) HR.out.rt hk hjj)
    have HSD : Hid (∀ W, Below w5.heap.size w5 W → Calls Tryz.prog 25 #[.pointer (some ⟨R'.rb, 0, none⟩), .int .i64 (j : Int)] W fun e w' => e = .returned (.int .i64 0) ∧ ∃ d4 : Dsk.St, (d4.acts ≤ d3.acts + 2 ∧ d4.falls = d3.falls) ∧ KR P w0 w' R' gp (b + 1) 0 1 0 K d4 ∧ Key.KOn (Key.upd K j 0) d4) :=
      Lib.hid (fun W hb => by
        have hq := yshred_torn (HR.out.rt.below hb) hk hjj HUA.out.2.1 HUA.out.2.2.1 HUA.out.2.2.2 (by decide)
        exact hq.mono (fun e w' ⟨q1, q2, d4, q3, q4, q5, q6, q7⟩ => ⟨q1, d4, ⟨q3, q4⟩, (HR.out.below hb).turned q6 q2, q7⟩))
    have HC : Hid (∀ W, Below w5.heap.size w5 W → W.cell? ⟨gp, j, none⟩ = some (.int .i64 (K j : Int)) ∧ W.frozen? ⟨gp, j, none⟩ = false) := Lib.hid (fun W hb => ⟨(HR.out.below hb).pl.key j hjj, (HR.out.below hb).pl.has.free j⟩)
    clear hcw hfw hk HCS HKJ HR HUA HON HCB HKB HJ
    have HJJ := Lib.hid hjj
    clear hjj
    go_wp2_with fail
    refine HG.out.mono ?_
    rintro r w6 ⟨rfl, hb⟩
    obtain ⟨c1, f1⟩ := HC.out w6 hb
    have HB := Lib.hid hb
    clear hb HG HC
    go_wp2_with fail
    refine (HSD.out _ HB.out).mono ?_
    rintro r w7 ⟨rfl, d4, hle, hr, hon⟩
    have HR4 := Lib.hid (And.intro hle (And.intro hr hon))
    have c2 := hr.pl.key j HJJ.out
    have f2 := hr.pl.has.free j
    have hs1 : KR P w0 (w7.setCell ⟨gp, j, none⟩ (.int .i64 0)) R' gp (b + 1) 0 1 0 (Key.upd K j 0) d4 := hr.key j 0 HJJ.out (by decide)
    have c3 := hs1.pl.shred
    have f3 := hs1.pl.has.free 9
    have HF := Lib.hid ((hs1.count 1).up hon (fun i hi => rfl))
    clear hle hr hon hs1 c1 f1 HSD
    go_wp2_with fail
    go_ret
    exact ⟨R', 1, _, d4, HE.out.1, HE.out.2.1, HE.out.2.2, rfl, HF.out, by decide, by have := HLE.out; have := HR4.out.1; omega, by have := HLE.out; have := HR4.out.1; omega⟩
end
end Go.Proofs.YthadcmbbdggneaaGreatDoor

namespace Go.Proofs.YthadcmbbdggneaaGreatDoor
open Go.RowKit
set_option linter.unusedVariables false

section
variable {P : Kp} {w0 w W W' : World} {R : RB} {g bd mb gp b wn sh sp : Nat} {K : Nat → Nat} {d d' : Dsk.St}
/-- The document's ring, while it is told what is kept. -/
structure KL (P : Kp) (w W : World) (gp b sh : Nat) (K : Nat → Nat) (L : List Int) (i : Nat) : Prop where
  pl : PlK P W gp (Key.kept K L i) b sh
  mv : Mv w W [gp]
theorem KL.used {L : List Int} {i : Nat} (h : KL P w W gp b sh K L i) (hu : (i : Int) ∈ L) : KL P w W gp b sh K L (i + 1) := ⟨h.pl.cells (fun k _ => Key.kept_used hu k), h.mv⟩
theorem KL.free {L : List Int} {i : Nat} (h : KL P w W gp b sh K L i) (hu : (i : Int) ∉ L) (h0 : K i = 0) : KL P w W gp b sh K L (i + 1) := ⟨h.pl.cells (fun k _ => by
  rw [Key.kept_next hu]
  unfold Key.upd
  split
  · rename_i e; rw [e, Key.kept_at, h0]
  · rfl), h.mv⟩
theorem KL.shred {L : List Int} {i : Nat} (h : KL P w W gp b sh K L i) (hu : (i : Int) ∉ L) (hi : i < 8) : KL P w (W.setCell ⟨gp, i, none⟩ (.int .i64 0)) gp b sh K L (i + 1) :=
  ⟨(h.pl.setKey i 0 hi).cells (fun k _ => Key.kept_next hu k), h.mv.trans (Mv.of_only (Only.set W gp i _) (by simp))⟩
theorem KL.key {L : List Int} {i : Nat} (h : KL P w W gp b sh K L i) (hi : i < 8) : W.cell? ⟨gp, i, none⟩ = some (.int .i64 (K i : Int)) := by
  have := h.pl.key i hi
  rw [Key.kept_at] at this
  exact this
theorem gone_used {L : List Int} {i : Nat} (hu : (i : Int) ∈ L) : Key.gone K L (i + 1) = Key.gone K L i := by
  show Key.gone K L i + (if (i : Int) ∉ L ∧ K i ≠ 0 then 1 else 0) = _
  rw [if_neg (fun x => x.1 hu)]
  rfl
theorem gone_free {L : List Int} {i : Nat} (h0 : K i = 0) : Key.gone K L (i + 1) = Key.gone K L i := by
  show Key.gone K L i + (if (i : Int) ∉ L ∧ K i ≠ 0 then 1 else 0) = _
  rw [if_neg (fun x => x.2 h0)]
  rfl
theorem gone_shred {L : List Int} {i : Nat} (hu : (i : Int) ∉ L) (h0 : K i ≠ 0) : Key.gone K L (i + 1) = Key.gone K L i + 1 := by
  show Key.gone K L i + (if (i : Int) ∉ L ∧ K i ≠ 0 then 1 else 0) = _
  rw [if_pos ⟨hu, h0⟩]
set_option maxRecDepth 100000 in
set_option maxHeartbeats 4000000 in
theorem kkeep_any (h : KU P w0 w R gp b wn sh K d) (harm : d.arm = none) (ha : d.acts < 900000000000) (hf : d.falls < 900000000000) (hsh : sh ≤ 1000000) (L : List Int) (A : Option Addr) (cap : Nat) (hl : IL w (gp :: R.all) A L) (hc1 : L.length ≤ cap) (hc2 : cap ≤ 9223372036854775807) :
    Calls Tryz.prog 13 #[.pointer (some ⟨R.rb, 0, none⟩), .pointer (some ⟨gp, 0, none⟩), .slice A L.length cap] w fun e w' => e = .returned (.bool true) ∧
      ∃ (d' : Dsk.St) (sh' : Nat) (K' : Nat → Nat), d'.acts ≤ d.acts + 16 ∧ d'.falls ≤ d.falls + 8 ∧ sh' ≤ sh + 8 ∧ KU P w0 w' R gp b wn sh' K' d' := by
  have HU := Lib.hid h
  have HL := Lib.hid hl
  have hg8 := Key.gone_le K L 8
  have HKP : Hid (∀ W, Mv w W [gp] → Calls Tryz.prog 31 #[.pointer (some ⟨R.rb, 0, none⟩), .slice A L.length cap] W fun e w' => e = .returned (.tuple #[.int .i64 (Key.gone K L 8 : Int), .int .i64 0]) ∧ Mv W w' R.all ∧
      ∃ d', d'.acts ≤ d.acts + 16 ∧ d'.falls ≤ d.falls + 8 ∧ d'.arm = none ∧ RAt w0 w' R b wn (sh + Key.gone K L 8) d' ∧ Key.KOn (Key.kept K L 8) d') := Lib.hid (fun W hm =>
    ykeep_any (h.rt.apart hm (fun k hk => by rw [List.mem_singleton.1 hk]; exact h.no) (fun k hk => by rw [List.mem_singleton.1 hk]; exact h.lo)) h.on harm ha hf hsh L A cap (fun hne => by
      obtain ⟨b1, o1, q1, q2, q3, q4⟩ := hl hne
      exact ⟨b1, o1, q1, Nat.lt_of_lt_of_le q2 hm.size, fun x => q3 (List.mem_cons_of_mem _ x), fun k hk => (World.cell?_of_block (hm.block b1 q2 (fun x => q3 (by rw [List.mem_singleton.1 x]; exact List.mem_cons_self)))).trans (q4 k hk)⟩) hc1 hc2)
  have HIL : Hid (∀ W, Mv w W [gp] → IL W (gp :: R.all) A L) := Lib.hid (fun W hm => hl.mv hm (fun x hx => by rw [List.mem_singleton.1 hx]; exact List.mem_cons_self))
  have HSS := Lib.hid hsh
  clear h hl harm ha hf hsh hg8
  go_enter Tryz.func13, Tryz.ntmps13
  go_wp2_with fail
  go_loopg [7, 8] 8 (fun n v7 v8 wr => ∃ i : Nat, i + n = 8 ∧ v7 = .int .i64 (Key.gone K L i : Int) ∧ v8 = .int .i64 (i : Int) ∧ Hid (KL P w wr gp b sh K L i))
  case atStart => exact ⟨0, rfl, rfl, rfl, Lib.hid ⟨HU.out.pl.cells (fun i hi => by unfold Key.kept; rw [if_neg (fun x => absurd x.1 (Nat.not_lt_zero _))]), Mv.refl _ _⟩⟩
  case round =>
    obtain ⟨i, hin, rfl, rfl, HK⟩ := hrel
    cases gk with
    | zero =>
      obtain rfl : i = 8 := by omega
      have hl8 : ¬ ((8 : Nat) : Int) < 8 := by decide
      have hg8 := Key.gone_le K L 8
      clear hin
      generalize Key.gone K L 8 = gn at *
      have hgg : ((gn : Int) == (gn : Int)) = true := by rw [beq_self_eq_true]
      have hsm : IntKind.i64.wrap ((sh : Int) + (gn : Int)) = (sh : Int) + (gn : Int) := by
        have := HSS.out
        rw [IntKind.wrap_i64]
        omega
      have HG8 := Lib.hid hg8
      have HC := Lib.hid (HKP.out wr HK.out.mv)
      clear hg8 HKP HIL HL HSS
      go_wp2_with fail
      refine HC.out.mono ?_
      rintro r w4 ⟨rfl, hm, d', q1, q2, q3, q4, q5⟩
      have HR4 : Hid (KR P w0 w4 R gp b wn (sh + gn) sh (Key.kept K L 8) d') := Lib.hid ⟨q4, HK.out.pl.mv hm HU.out.no HU.out.nok, HU.out.no, HU.out.nok, HU.out.lo, Key.kept_le 8 HU.out.kb⟩
      have HON := Lib.hid (And.intro q5 (And.intro q1 q2))
      have c9 := HR4.out.pl.shred
      have f9 := HR4.out.pl.has.free 9
      have hcast : ((sh + gn : Nat) : Int) = (sh : Int) + (gn : Int) := by omega
      have hfin := (HR4.out.count (sh + gn)).up HON.out.1 (fun _ _ => rfl)
      rw [hcast] at hfin
      have HFIN := Lib.hid hfin
      clear hm q1 q2 q3 q4 q5 hfin hcast HC
      go_wp2_with fail
      go_ret
      exact ⟨rfl, d', sh + gn, Key.kept K L 8, HON.out.2.1, HON.out.2.2, by have := HG8.out; omega, HFIN.out⟩
    | succ n =>
      have hi : i < 8 := by omega
      have hi8 : (i : Int) < 8 := by omega
      have hi0 : (0 : Int) ≤ (i : Int) := by omega
      have hinc : IntKind.i64.wrap ((i : Int) + 1) = (i : Int) + 1 := by rw [IntKind.wrap_i64]; omega
      have HN := Lib.hid hin
      clear hin
      generalize wr = wo at HK ⊢
      generalize hgn : Key.gone K L i = gn
      have HGN := Lib.hid hgn
      have hgl := Key.gone_le K L i
      rw [hgn] at hgl
      have hincn : IntKind.i64.wrap ((gn : Int) + 1) = (gn : Int) + 1 := by rw [IntKind.wrap_i64]; omega
      clear hgn
      go_wp2_with fail
      go_loopg [9, 10] L.length (fun m v9 v10 wx => ∃ k : Nat, k + m = L.length ∧ v10 = .int .i64 (k : Int) ∧ (∃ u : Bool, v9 = .bool u ∧ Hid (u = decide ((i : Int) ∈ L.take k))) ∧ Hid (wo = wx))
      case atStart => exact ⟨0, Nat.zero_add _, rfl, ⟨false, rfl, Lib.hid (by simp)⟩, Lib.hid rfl⟩
      case round =>
        obtain ⟨k, hkm, rfl, ⟨u, rfl, HU2⟩, HW⟩ := hrel
        obtain rfl := HW.out
        cases gk with
        | zero =>
          have hkl : ¬ (k : Int) < (L.length : Int) := by omega
          have hu : u = decide ((i : Int) ∈ L) := by
            have := HU2.out
            rw [List.take_of_length_le (by omega)] at this
            exact this
          have hcK := HK.out.key hi
          have hfK := HK.out.pl.has.free i
          have HII := Lib.hid hi
          clear hkm HU2 HW HU HL HKP HIL HSS hgl
          cases u with
          | true =>
            have HM : Hid ((i : Int) ∈ L) := Lib.hid (of_decide_eq_true hu.symm)
            clear hu hcK hfK
            go_wp2_with fail
            go_roundg n
            case measure => omega
            case rel => exact ⟨i + 1, by have := HN.out; omega, by rw [gone_used HM.out, HGN.out], by go_num, Lib.hid (HK.out.used HM.out)⟩
          | false =>
            have HM : Hid ((i : Int) ∉ L) := Lib.hid (of_decide_eq_false hu.symm)
            clear hu
            by_cases hz : K i = 0
            · have HZ := Lib.hid hz
              rw [hz] at hcK
              clear hz
              go_wp2_with fail
              go_roundg n
              case measure => omega
              case rel => exact ⟨i + 1, by have := HN.out; omega, by rw [gone_free HZ.out, HGN.out], by go_num, Lib.hid (HK.out.free HM.out HZ.out)⟩
            · have HZ := Lib.hid hz
              have hz1 : ((K i : Int) != 0) = true := by rw [bne_iff_ne]; omega
              have hz2 : ((K i : Int) == 0) = false := by rw [beq_eq_false_iff_ne]; omega
              clear hz
              generalize hkk : (K i : Int) = kj at hcK hz1 hz2
              clear hkk
              go_wp2_with fail
              go_roundg n
              case measure => omega
              case rel => exact ⟨i + 1, by have := HN.out; omega, by rw [gone_shred HM.out HZ.out, HGN.out]; go_num, by go_num, Lib.hid (HK.out.shred HM.out HII.out)⟩
        | succ m =>
          have hkl : (k : Int) < (L.length : Int) := by omega
          have hkn : k < L.length := by omega
          have hkc : (k : Int) < (cap : Int) := by omega
          have hk0 : (0 : Int) ≤ (k : Int) := by omega
          have hinck : IntKind.i64.wrap ((k : Int) + 1) = (k : Int) + 1 := by rw [IntKind.wrap_i64]; omega
          obtain ⟨bu, off, rfl, hcu⟩ := (HIL.out wo HK.out.mv).get k hkn
          have HT : Hid (L.take (k + 1) = L.take k ++ [L[k]'hkn]) := Lib.hid (List.take_succ_eq_append_getElem hkn)
          generalize L[k]'hkn = x at hcu HT
          have HKM := Lib.hid hkm
          clear hkm HW HU HL HKP HIL HSS hgl
          cases u with
          | true =>
            go_wp2_with fail
            go_roundg m
            case measure => omega
            case rel => exact ⟨k + 1, by have := HKM.out; omega, by go_num, ⟨true, rfl, Lib.hid (by
              rw [HT.out]
              exact (decide_eq_true (List.mem_append_left _ (of_decide_eq_true HU2.out.symm))).symm)⟩, Lib.hid rfl⟩
          | false =>
            by_cases hx : x = (i : Int)
            · subst hx
              have hxx : ((i : Int) == (i : Int)) = true := by rw [beq_self_eq_true]
              go_wp2_with fail
              go_roundg m
              case measure => omega
              case rel => exact ⟨k + 1, by have := HKM.out; omega, by go_num, ⟨true, rfl, Lib.hid (by
                rw [HT.out]
                exact (decide_eq_true (List.mem_append_right _ (List.mem_singleton.2 rfl))).symm)⟩, Lib.hid rfl⟩
            · have hx1 : (x == (i : Int)) = false := by rw [beq_eq_false_iff_ne]; exact hx
              have HX := Lib.hid hx
              go_wp2_with fail
              go_roundg m
              case measure => omega
              case rel => exact ⟨k + 1, by have := HKM.out; omega, by go_num, ⟨false, rfl, Lib.hid (by
                rw [HT.out]
                refine (decide_eq_false (fun hmm => ?_)).symm
                rcases List.mem_append.1 hmm with hmm | hmm
                · exact of_decide_eq_false HU2.out.symm hmm
                · exact HX.out (List.mem_singleton.1 hmm).symm)⟩, Lib.hid rfl⟩
end
end Go.Proofs.YthadcmbbdggneaaGreatDoor
