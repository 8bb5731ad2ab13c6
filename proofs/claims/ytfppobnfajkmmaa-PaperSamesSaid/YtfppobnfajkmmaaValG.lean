/-
  The contract of value's Bytes.
-/
import Derived.Test.YtfppobnfajkmmaaValF
import Derived.Test.YtfppobnfajkmmaaWriteAll
namespace Go.Proofs.Ytfppobnfajkmmaa
open Go.RowKit
set_option linter.unusedVariables false

/-- An integer as a word. -/
def w64 (i : Int) : Nat := (i % 18446744073709551616).toNat
/-- What follows a value's kind. -/
def Val.body (x : Val) : List UInt8 :=
  if x.kind = 1 then [if x.flag then 1 else 0]
  else if x.kind = 2 then oct 8 (w64 x.int)
  else if x.kind = 3 then oct 8 x.bits
  else if x.kind = 4 then M.encL x.text.length ++ x.text
  else []
/-- A value's bytes. -/
def Val.enc (x : Val) : List UInt8 := M.encL x.kind ++ x.body

theorem Val.right_le {x : Val} (h : x.right = true) : 0 ≤ x.kind ∧ x.kind ≤ 4 ∧ x.text.length ≤ 200 ∧ x = x.clean := by
  unfold Val.right at h
  exact of_decide_eq_true h

/-- A writer that has nothing. -/
theorem wr_new (w : World) : Wr (w.alloc (.cells #[.pointer none, .int .i64 0, .bool false] 52)) w.heap.size ([], false) :=
  ⟨none, Has.made w _ _, rfl⟩

theorem encL_ne {k : Int} (h0 : 0 ≤ k) (h4 : k ≤ 4) : M.encL k ≠ [] := by
  unfold M.encL
  rw [if_pos ⟨h0, by omega⟩]
  simp
theorem encL_nat {n : Nat} (h : n ≤ 200) : ¬ M.encL (n : Int) = [] := by
  unfold M.encL
  rw [if_pos ⟨by omega, by omega⟩]
  simp
theorem num_good {k : Int} (h0 : 0 ≤ k) (h4 : k ≤ 4) : (Wt.num k ([], false)).2 = false := by
  rw [Wt.bad_num]; simp [encL_ne h0 h4]
theorem flat_num0 (k : Int) : Wt.flat (Wt.num k ([], false)) = M.encL k := by
  rw [Wt.flat_num]; rfl

set_option maxRecDepth 100000 in
set_option maxHeartbeats 2000000 in
theorem bytes_any (x : Val) (hx : x.ok) (w : World) :
    Calls Try.prog 28 #[x.v] w fun r w' => r = .returned (.string (S (if x.right = true then x.enc else []))) ∧ Below w.heap.size w w' := by
  have hN := fun W => right_any x hx W
  have hle := fun h => Val.right_le (x := x) h
  have hE : x.enc = M.encL x.kind ++ x.body := rfl
  have hBd : x.body = if x.kind = 1 then [if x.flag then 1 else 0]
    else if x.kind = 2 then oct 8 (w64 x.int)
    else if x.kind = 3 then oct 8 x.bits
    else if x.kind = 4 then M.encL x.text.length ++ x.text
    else [] := rfl
  obtain ⟨k, f, i, b, t⟩ := x
  generalize Val.enc _ = en at hE ⊢
  generalize Val.body _ = bd at hE hBd
  generalize Val.right _ = rr at hN hle ⊢
  rw [Val.v_eq] at hN ⊢
  have HN := Lib.hid hN; clear hN
  cases rr
  · clear hle hE hBd
    go_enter Try.func28, Try.ntmps28
    go_wp2_with fail
    refine (HN.out _).mono ?_
    rintro r w1 ⟨rfl, hb1⟩
    go_wp2_with fail
    go_ret
    exact ⟨rfl, (up1 _).trans (hb1.mono (by simp))⟩
  · obtain ⟨h0, h4, ht, -⟩ := hle rfl
    simp only [] at h0 h4 ht hE hBd
    have hk : k = 0 ∨ k = 1 ∨ k = 2 ∨ k = 3 ∨ k = 4 := by omega
    have hng := num_good h0 h4
    have hfl := flat_num0 k
    have hl8 := M.encL_len k
    have hNum := fun g W h => wnum_wr k g ([], false) W h (by simp [Wt.flat])
    generalize Wt.num k ([], false) = st1 at hng hfl hNum
    have HNUM := Lib.hid hNum; clear hNum
    have HW := Lib.hid (And.intro hng (And.intro hfl hl8)); clear hng hfl hl8
    clear hle h0 h4
    have hfin : ∀ (st : Wt.St) (g : Nat) (W : World), Wr W g st → st.2 = false → Wt.flat st = en → en.length ≤ 281474976710656 → Calls Try.prog 29 #[.pointer (some ⟨g, 0, none⟩)] W fun r w' => r = .returned (.tuple #[.string (S en), .bool true]) ∧ Below W.heap.size W w' :=
      fun st g W h h2 h3 h4 => by rw [← h3] at h4 ⊢; exact all_good g st W h h2 h4
    have HFIN := Lib.hid hfin; clear hfin
    rcases hk with rfl | rfl | rfl | rfl | rfl
    · have HE := Lib.hid (show en = M.encL 0 by rw [hE, hBd]; simp); clear hE hBd
      go_enter Try.func28, Try.ntmps28
      go_wp2_with fail
      refine (HN.out _).mono ?_
      rintro r w1 ⟨rfl, hb1⟩
      have HB : Has w1 w.heap.size 38 (vcs 0 f i b t) := (Has.made w _ _).below hb1 (by simp)
      have hb0 : Below w.heap.size w w1 := (up1 _).trans (hb1.mono (by simp))
      have hlt := HB.lt
      have HA := HB.of_alloc (.cells #[.pointer none, .int .i64 0, .bool false] 52)
      have hx := lies HA
      clear hb1 HB
      go_wp2_with fail
      refine (HNUM.out _ _ (wr_new w1)).mono ?_
      rintro r w2 ⟨rfl, h2, ho2⟩
      have HB2 := ho2.has HA (Nat.ne_of_lt hlt)
      have hb2 : Below w.heap.size w w2 := ho2.below (hb0.alloc (Nat.le_of_lt hlt) _) (by simp; omega) (Nat.le_of_lt hlt)
      have hx2 := lies HB2
      clear HB2 HA hx ho2
      go_wp2_with fail
      refine (HFIN.out _ _ _ h2 HW.out.1 (by rw [HW.out.2.1, HE.out]) (by rw [HE.out]; have := HW.out.2.2; omega)).mono ?_
      rintro r w3 ⟨rfl, hb3⟩
      go_wp2_with fail
      go_ret
      exact ⟨rfl, hb2.trans (hb3.mono hb2.size)⟩
    · have hL : (Wt.flag f st1).2 = false ∧ Wt.flat (Wt.flag f st1) = en ∧ en.length ≤ 281474976710656 := (by
        have h1 := HW.out.1
        have h2 := HW.out.2.1
        have h3 := HW.out.2.2
        have hen : en = M.encL 1 ++ [if f then 1 else 0] := by rw [hE, hBd]; simp
        refine ⟨?_, ?_, ?_⟩
        · unfold Wt.flag; rw [Wt.bad_raw]; exact h1
        · rw [Wt.flat_flag, h2, hen]
        · rw [hen, List.length_append]; simp only [List.length_cons, List.length_nil]; omega)
      have HL := Lib.hid hL
      clear hL hE hBd
      go_enter Try.func28, Try.ntmps28
      go_wp2_with fail
      refine (HN.out _).mono ?_
      rintro r w1 ⟨rfl, hb1⟩
      have HB : Has w1 w.heap.size 38 (vcs 1 f i b t) := (Has.made w _ _).below hb1 (by simp)
      have hb0 : Below w.heap.size w w1 := (up1 _).trans (hb1.mono (by simp))
      have hlt := HB.lt
      have HA := HB.of_alloc (.cells #[.pointer none, .int .i64 0, .bool false] 52)
      have hx := lies HA
      clear hb1 HB
      go_wp2_with fail
      refine (HNUM.out _ _ (wr_new w1)).mono ?_
      rintro r w2 ⟨rfl, h2, ho2⟩
      have HB2 := ho2.has HA (Nat.ne_of_lt hlt)
      have hb2 : Below w.heap.size w w2 := ho2.below (hb0.alloc (Nat.le_of_lt hlt) _) (by simp; omega) (Nat.le_of_lt hlt)
      have hx2 := lies HB2
      clear HA hx ho2 hb0
      go_wp2_with fail
      refine (wflag_wr f _ _ _ h2 (by rw [HW.out.2.1]; have := HW.out.2.2; omega)).mono ?_
      rintro r w3 ⟨rfl, h3, ho3⟩
      have hb3 : Below w.heap.size w w3 := ho3.below hb2 hb2.size (Nat.le_of_lt hlt)
      have hx3 := lies (ho3.has HB2 (Nat.ne_of_lt hlt))
      clear HB2 hx2 ho3
      go_wp2_with fail
      refine (HFIN.out _ _ _ h3 HL.out.1 HL.out.2.1 HL.out.2.2).mono ?_
      rintro r w4 ⟨rfl, hb4⟩
      go_wp2_with fail
      go_ret
      exact ⟨rfl, hb3.trans (hb4.mono hb3.size)⟩
    · have hwd : ∀ W, Calls Try.prog 47 #[.int .u64 (i % 18446744073709551616)] W fun e w' => e = .returned (.string (S (oct 8 (w64 i)))) ∧ Below W.heap.size W w' := fun W => by
        have e : i % 18446744073709551616 = ((w64 i : Nat) : Int) := by unfold w64; omega
        rw [e]
        exact word_any (w64 i) (by unfold w64; omega) W
      have HWD := Lib.hid hwd; clear hwd
      have hL : (Wt.raw (oct 8 (w64 i)) st1).2 = false ∧ Wt.flat (Wt.raw (oct 8 (w64 i)) st1) = en ∧ en.length ≤ 281474976710656 := (by
        have h1 := HW.out.1
        have h2 := HW.out.2.1
        have h3 := HW.out.2.2
        have hen : en = M.encL 2 ++ oct 8 (w64 i) := by rw [hE, hBd]; simp
        refine ⟨?_, ?_, ?_⟩
        · rw [Wt.bad_raw]; exact h1
        · rw [Wt.flat_raw, h2, hen]
        · rw [hen, List.length_append]; rw [oct_len]; omega)
      have HL := Lib.hid hL
      clear hL hE hBd
      go_enter Try.func28, Try.ntmps28
      go_wp2_with fail
      refine (HN.out _).mono ?_
      rintro r w1 ⟨rfl, hb1⟩
      have HB : Has w1 w.heap.size 38 (vcs 2 f i b t) := (Has.made w _ _).below hb1 (by simp)
      have hb0 : Below w.heap.size w w1 := (up1 _).trans (hb1.mono (by simp))
      have hlt := HB.lt
      have HA := HB.of_alloc (.cells #[.pointer none, .int .i64 0, .bool false] 52)
      have hx := lies HA
      clear hb1 HB
      go_wp2_with fail
      refine (HNUM.out _ _ (wr_new w1)).mono ?_
      rintro r w2 ⟨rfl, h2, ho2⟩
      have HB2 := ho2.has HA (Nat.ne_of_lt hlt)
      have hb2 : Below w.heap.size w w2 := ho2.below (hb0.alloc (Nat.le_of_lt hlt) _) (by simp; omega) (Nat.le_of_lt hlt)
      have hx2 := lies HB2
      clear HA hx ho2 hb0
      go_wp2_with fail
      refine (HWD.out _).mono ?_
      rintro r w2' ⟨rfl, hb2'⟩
      have h2' := h2.below hb2' (Nat.le_refl _)
      have HB2' := HB2.below hb2' HB2.lt
      have hx2' := lies HB2'
      have hb2'' := hb2.trans (hb2'.mono hb2.size)
      clear HB2 hx2
      go_wp2_with fail
      refine (raw_wr (oct 8 (w64 i)) _ _ _ h2' (by rw [HW.out.2.1, oct_len]; have := HW.out.2.2; omega)).mono ?_
      rintro r w3 ⟨rfl, h3, ho3⟩
      have hb3 : Below w.heap.size w w3 := ho3.below hb2'' hb2''.size (Nat.le_of_lt hlt)
      have hx3 := lies (ho3.has HB2' (Nat.ne_of_lt hlt))
      clear HB2' hx2' ho3
      go_wp2_with fail
      refine (HFIN.out _ _ _ h3 HL.out.1 HL.out.2.1 HL.out.2.2).mono ?_
      rintro r w4 ⟨rfl, hb4⟩
      go_wp2_with fail
      go_ret
      exact ⟨rfl, hb3.trans (hb4.mono hb3.size)⟩
    · have HWD := Lib.hid (fun W => word_any b hx.1 W)
      have hL : (Wt.raw (oct 8 b) st1).2 = false ∧ Wt.flat (Wt.raw (oct 8 b) st1) = en ∧ en.length ≤ 281474976710656 := (by
        have h1 := HW.out.1
        have h2 := HW.out.2.1
        have h3 := HW.out.2.2
        have hen : en = M.encL 3 ++ oct 8 b := by rw [hE, hBd]; simp
        refine ⟨?_, ?_, ?_⟩
        · rw [Wt.bad_raw]; exact h1
        · rw [Wt.flat_raw, h2, hen]
        · rw [hen, List.length_append]; rw [oct_len]; omega)
      have HL := Lib.hid hL
      clear hL hE hBd
      go_enter Try.func28, Try.ntmps28
      go_wp2_with fail
      refine (HN.out _).mono ?_
      rintro r w1 ⟨rfl, hb1⟩
      have HB : Has w1 w.heap.size 38 (vcs 3 f i b t) := (Has.made w _ _).below hb1 (by simp)
      have hb0 : Below w.heap.size w w1 := (up1 _).trans (hb1.mono (by simp))
      have hlt := HB.lt
      have HA := HB.of_alloc (.cells #[.pointer none, .int .i64 0, .bool false] 52)
      have hx := lies HA
      clear hb1 HB
      go_wp2_with fail
      refine (HNUM.out _ _ (wr_new w1)).mono ?_
      rintro r w2 ⟨rfl, h2, ho2⟩
      have HB2 := ho2.has HA (Nat.ne_of_lt hlt)
      have hb2 : Below w.heap.size w w2 := ho2.below (hb0.alloc (Nat.le_of_lt hlt) _) (by simp; omega) (Nat.le_of_lt hlt)
      have hx2 := lies HB2
      clear HA hx ho2 hb0
      go_wp2_with fail
      refine (HWD.out _).mono ?_
      rintro r w2' ⟨rfl, hb2'⟩
      have h2' := h2.below hb2' (Nat.le_refl _)
      have HB2' := HB2.below hb2' HB2.lt
      have hx2' := lies HB2'
      have hb2'' := hb2.trans (hb2'.mono hb2.size)
      clear HB2 hx2
      go_wp2_with fail
      refine (raw_wr (oct 8 b) _ _ _ h2' (by rw [HW.out.2.1, oct_len]; have := HW.out.2.2; omega)).mono ?_
      rintro r w3 ⟨rfl, h3, ho3⟩
      have hb3 : Below w.heap.size w w3 := ho3.below hb2'' hb2''.size (Nat.le_of_lt hlt)
      have hx3 := lies (ho3.has HB2' (Nat.ne_of_lt hlt))
      clear HB2' hx2' ho3
      go_wp2_with fail
      refine (HFIN.out _ _ _ h3 HL.out.1 HL.out.2.1 HL.out.2.2).mono ?_
      rintro r w4 ⟨rfl, hb4⟩
      go_wp2_with fail
      go_ret
      exact ⟨rfl, hb3.trans (hb4.mono hb3.size)⟩
    · have HT := Lib.hid ht
      have hL : (Wt.text t st1).2 = false ∧ Wt.flat (Wt.text t st1) = en ∧ en.length ≤ 281474976710656 := (by
        have h1 := HW.out.1
        have h2 := HW.out.2.1
        have h3 := HW.out.2.2
        have hen : en = M.encL 4 ++ (M.encL t.length ++ t) := by rw [hE, hBd]; simp
        refine ⟨?_, ?_, ?_⟩
        · unfold Wt.text; rw [Wt.bad_raw, Wt.bad_num, h1]; simp; exact encL_nat ht
        · rw [Wt.flat_text, h2, hen]
        · rw [hen, List.length_append]; rw [List.length_append]; have := M.encL_len t.length; omega)
      have HL := Lib.hid hL
      clear hL hE hBd
      go_enter Try.func28, Try.ntmps28
      go_wp2_with fail
      refine (HN.out _).mono ?_
      rintro r w1 ⟨rfl, hb1⟩
      have HB : Has w1 w.heap.size 38 (vcs 4 f i b t) := (Has.made w _ _).below hb1 (by simp)
      have hb0 : Below w.heap.size w w1 := (up1 _).trans (hb1.mono (by simp))
      have hlt := HB.lt
      have HA := HB.of_alloc (.cells #[.pointer none, .int .i64 0, .bool false] 52)
      have hx := lies HA
      clear hb1 HB
      go_wp2_with fail
      refine (HNUM.out _ _ (wr_new w1)).mono ?_
      rintro r w2 ⟨rfl, h2, ho2⟩
      have HB2 := ho2.has HA (Nat.ne_of_lt hlt)
      have hb2 : Below w.heap.size w w2 := ho2.below (hb0.alloc (Nat.le_of_lt hlt) _) (by simp; omega) (Nat.le_of_lt hlt)
      have hx2 := lies HB2
      clear HA hx ho2 hb0
      go_wp2_with fail
      refine (wtext_wr t _ _ _ h2 (by rw [HW.out.2.1]; have := HW.out.2.2; have := HT.out; omega)).mono ?_
      rintro r w3 ⟨rfl, h3, ho3⟩
      have hb3 : Below w.heap.size w w3 := ho3.below hb2 hb2.size (Nat.le_of_lt hlt)
      have hx3 := lies (ho3.has HB2 (Nat.ne_of_lt hlt))
      clear HB2 hx2 ho3
      go_wp2_with fail
      refine (HFIN.out _ _ _ h3 HL.out.1 HL.out.2.1 HL.out.2.2).mono ?_
      rintro r w4 ⟨rfl, hb4⟩
      go_wp2_with fail
      go_ret
      exact ⟨rfl, hb3.trans (hb4.mono hb3.size)⟩
end Go.Proofs.Ytfppobnfajkmmaa
