/-
  The contract of value's Read.
-/
import Derived.Test.YtfppobnfajkmmaaValI
import Derived.Laws.ResultCell
namespace Go.Proofs.Ytfppobnfajkmmaa
open Go.RowKit
set_option linter.unusedVariables false

/-- A value that lies in a block, handed back beside a number. -/
theorem ret_val2 {fn : Func} {p u : Tmp} {R : Ending → World → Prop} {a : Act} {w : World} (h : fn.results = #[.cell p 38, .tmp u]) (g : Nat) (cs : Array Value) (v : Value)
    (hp : a.tmps.getD p undef = .pointer (some ⟨g, 0, none⟩)) (hu : a.tmps.getD u undef = v) (hd : a.defers = []) (hh : Has w g 38 cs) (hcs : cs.size = 5) (hR : R (.returned (.tuple #[.agg cs, v])) w) : bodyPost Try.prog fn R .ret a w :=
  bodyPost_ret (v := .tuple #[.agg cs, v]) (by
    rw [results_cell_tmp h, hp, hu]
    simp [asAddr, whole hh hcs, Result.andThen]) hd hR

/-- Behind the bytes that were read: the reader, the value, the room for the result. -/
def Mid (w W : World) (g b gv : Nat) (x : Val) (st : R.St) : Prop :=
  Rd W g b st ∧ Has W gv 38 (vcs x.kind x.flag x.int x.bits x.text) ∧ Has W w.heap.size 38 (vcs 0 false 0 0 []) ∧ Below w.heap.size w W

set_option maxRecDepth 100000 in
set_option maxHeartbeats 2000000 in
theorem vread_any (l : List UInt8) (hl : l.length ≤ 1000000) (w : World) :
    Calls Try.prog 53 #[.string (S l)] w fun r w' => r = .returned (.tuple #[(Val.readV l).1.v, .int .i64 (Val.readV l).2]) ∧ Below w.heap.size w w' := by
  have hV : Val.readV l = if (R.fin (Val.read l).2).2 ≠ 0 then (zeroV, (R.fin (Val.read l).2).2) else if (Val.read l).1.right = true then ((Val.read l).1, 0) else (zeroV, 4) := rfl
  have hok := Val.read_ok l
  have hrd : Val.read l = if (R.num 4 (l, 0)).1 = 1 then (⟨1, (R.flag (R.num 4 (l, 0)).2).1, 0, 0, []⟩, (R.flag (R.num 4 (l, 0)).2).2)
    else if (R.num 4 (l, 0)).1 = 2 then (⟨2, false, wrap64 (wordOf (R.next 8 (R.num 4 (l, 0)).2).1 : Nat), 0, []⟩, (R.next 8 (R.num 4 (l, 0)).2).2)
    else if (R.num 4 (l, 0)).1 = 3 then (⟨3, false, 0, wordOf (R.next 8 (R.num 4 (l, 0)).2).1, []⟩, (R.next 8 (R.num 4 (l, 0)).2).2)
    else if (R.num 4 (l, 0)).1 = 4 then (⟨4, false, 0, 0, (R.text 200 (R.num 4 (l, 0)).2).1⟩, (R.text 200 (R.num 4 (l, 0)).2).2)
    else (⟨(R.num 4 (l, 0)).1, false, 0, 0, []⟩, (R.num 4 (l, 0)).2) := rfl
  have hK := R.num_le 4 (by decide) (l, 0)
  have hrest := R.num_rest 4 (l, 0)
  have hNum := fun g b W h => num_rd 4 g b (l, 0) W h (by simp only []; omega)
  generalize Val.readV l = out at hV ⊢
  generalize Val.read l = rd at hV hok hrd
  generalize R.num 4 (l, 0) = n at hrd hK hrest hNum
  obtain ⟨k, st1⟩ := n
  simp only [] at hrd hK hrest
  have hcap : st1.1.length ≤ 4611686018427387904 := by omega
  have hkk : k = 0 ∨ k = 1 ∨ k = 2 ∨ k = 3 ∨ k = 4 := by omega
  have HNUM := Lib.hid hNum; clear hNum
  have HV := Lib.hid hV; clear hV
  have HCAP := Lib.hid hcap; clear hcap hrest hK hl
  rcases hkk with rfl | rfl | rfl | rfl | rfl
  case' inl =>
    have HRD := Lib.hid (show rd = (⟨0, false, 0, 0, []⟩, st1) by rw [hrd]; simp); clear hrd
    go_enter Try.func53, Try.ntmps53
    go_wp2_with fail
    refine (read_any l _).mono ?_
    rintro r w1 ⟨rfl, hr, hb, hs⟩
    have HR0 := (Has.made w 38 (vcs 0 false 0 0 [])).below hb (by simp)
    have hb0 : Below w.heap.size w w1 := (up1 _).trans (hb.mono (by simp))
    simp only [World.size_alloc] at hr hs
    clear hb
    go_wp2_with fail
    refine (HNUM.out _ _ _ hr).mono ?_
    rintro r w2 ⟨rfl, h2, ho2⟩
    have hs2 : w.heap.size + 3 ≤ w2.heap.size := by have := ho2.size; omega
    have HR2 := ho2.has HR0 (by omega)
    have hb2 : Below w.heap.size w w2 := ho2.below hb0 hb0.size (by omega)
    have HV3 := Has.made w2 38 (vcs 0 false 0 0 [])
    have h3 : Rd (w2.alloc (.cells (vcs 0 false 0 0 []) 38)) (w.heap.size + 1 + 1) (w.heap.size + 1) st1 := h2.below (up1 _) (Nat.le_refl _)
    have HR3 := HR2.of_alloc (.cells (vcs 0 false 0 0 []) 38)
    have hb3 : Below w.heap.size w (w2.alloc (.cells (vcs 0 false 0 0 []) 38)) := hb2.alloc (by omega) _
    clear hb0 HR0 hr hs ho2 h2 HR2 hb2
    go_wp2_with fail
    have HM : Mid w (w2.alloc (.cells #[.int .i64 0, .bool false, .int .i64 0, .int .u64 0, .string ⟨#[]⟩] 38)) (w.heap.size + 1 + 1) (w.heap.size + 1) w2.heap.size rd.1 rd.2 := by
      rw [HRD.out]; exact ⟨h3, HV3, HR3, hb3⟩
    generalize w2.alloc (.cells #[.int .i64 0, .bool false, .int .i64 0, .int .u64 0, .string ⟨#[]⟩] 38) = W at HM ⊢
    clear HRD h3 HV3 HR3 hb3
  case' inr.inl =>
    have HRD := Lib.hid (show rd = (⟨1, (R.flag st1).1, 0, 0, []⟩, (R.flag st1).2) by rw [hrd]; simp); clear hrd
    go_enter Try.func53, Try.ntmps53
    go_wp2_with fail
    refine (read_any l _).mono ?_
    rintro r w1 ⟨rfl, hr, hb, hs⟩
    have HR0 := (Has.made w 38 (vcs 0 false 0 0 [])).below hb (by simp)
    have hb0 : Below w.heap.size w w1 := (up1 _).trans (hb.mono (by simp))
    simp only [World.size_alloc] at hr hs
    clear hb
    go_wp2_with fail
    refine (HNUM.out _ _ _ hr).mono ?_
    rintro r w2 ⟨rfl, h2, ho2⟩
    have hs2 : w.heap.size + 3 ≤ w2.heap.size := by have := ho2.size; omega
    have HR2 := ho2.has HR0 (by omega)
    have hb2 : Below w.heap.size w w2 := ho2.below hb0 hb0.size (by omega)
    have HV3 := Has.made w2 38 (vcs 1 false 0 0 [])
    have h3 : Rd (w2.alloc (.cells (vcs 1 false 0 0 []) 38)) (w.heap.size + 1 + 1) (w.heap.size + 1) st1 := h2.below (up1 _) (Nat.le_refl _)
    have HR3 := HR2.of_alloc (.cells (vcs 1 false 0 0 []) 38)
    have hb3 : Below w.heap.size w (w2.alloc (.cells (vcs 1 false 0 0 []) 38)) := hb2.alloc (by omega) _
    clear hb0 HR0 hr hs ho2 h2 HR2 hb2
    go_wp2_with fail
    refine (flag_rd _ _ st1 _ h3 HCAP.out).mono ?_
    rintro r w4 ⟨rfl, h4, ho4⟩
    have HV4 := ho4.has HV3 (by omega)
    have HR4 := ho4.has HR3 (by omega)
    have hb4 : Below w.heap.size w w4 := ho4.below hb3 hb3.size (by omega)
    have hx := lies HV4
    have hf := HV4.free 1
    have HM : Mid w (w4.setCell ⟨w2.heap.size, 1, none⟩ (.bool (R.flag st1).1)) (w.heap.size + 1 + 1) (w.heap.size + 1) w2.heap.size rd.1 rd.2 := by
      rw [HRD.out]
      have HS := HV4.set 1 (.bool (R.flag st1).1)
      simp at HS
      exact ⟨h4.only (Only.set _ _ _ _) (by omega) (by omega), HS, (Only.set _ _ _ _).has HR4 (by omega), (Only.set _ _ _ _).below hb4 hb4.size (by omega)⟩
    clear HRD h3 HV3 HR3 hb3 h4 ho4 HR4 hb4 HV4
    go_wp2_with fail
    generalize w4.setCell ⟨w2.heap.size, 1, none⟩ (.bool (R.flag st1).1) = W at HM ⊢
    clear hx hf
  case' inr.inr.inl =>
    have HRD := Lib.hid (show rd = (⟨2, false, wrap64 (wordOf (R.next 8 st1).1 : Nat), 0, []⟩, (R.next 8 st1).2) by rw [hrd]; simp); clear hrd
    go_enter Try.func53, Try.ntmps53
    go_wp2_with fail
    refine (read_any l _).mono ?_
    rintro r w1 ⟨rfl, hr, hb, hs⟩
    have HR0 := (Has.made w 38 (vcs 0 false 0 0 [])).below hb (by simp)
    have hb0 : Below w.heap.size w w1 := (up1 _).trans (hb.mono (by simp))
    simp only [World.size_alloc] at hr hs
    clear hb
    go_wp2_with fail
    refine (HNUM.out _ _ _ hr).mono ?_
    rintro r w2 ⟨rfl, h2, ho2⟩
    have hs2 : w.heap.size + 3 ≤ w2.heap.size := by have := ho2.size; omega
    have HR2 := ho2.has HR0 (by omega)
    have hb2 : Below w.heap.size w w2 := ho2.below hb0 hb0.size (by omega)
    have HV3 := Has.made w2 38 (vcs 2 false 0 0 [])
    have h3 : Rd (w2.alloc (.cells (vcs 2 false 0 0 []) 38)) (w.heap.size + 1 + 1) (w.heap.size + 1) st1 := h2.below (up1 _) (Nat.le_refl _)
    have HR3 := HR2.of_alloc (.cells (vcs 2 false 0 0 []) 38)
    have hb3 : Below w.heap.size w (w2.alloc (.cells (vcs 2 false 0 0 []) 38)) := hb2.alloc (by omega) _
    clear hb0 HR0 hr hs ho2 h2 HR2 hb2
    go_wp2_with fail
    refine (readWord_any _ _ st1 _ h3 HCAP.out).mono ?_
    rintro r w4 ⟨rfl, h4, ho4⟩
    have HV4 := ho4.has HV3 (by omega)
    have HR4 := ho4.has HR3 (by omega)
    have hb4 : Below w.heap.size w w4 := ho4.below hb3 hb3.size (by omega)
    have hx := lies HV4
    have hf := HV4.free 2
    have HM : Mid w (w4.setCell ⟨w2.heap.size, 2, none⟩ (.int .i64 (wrap64 (wordOf (R.next 8 st1).1 : Nat)))) (w.heap.size + 1 + 1) (w.heap.size + 1) w2.heap.size rd.1 rd.2 := by
      rw [HRD.out]
      have HS := HV4.set 2 (.int .i64 (wrap64 (wordOf (R.next 8 st1).1 : Nat)))
      simp at HS
      exact ⟨h4.only (Only.set _ _ _ _) (by omega) (by omega), HS, (Only.set _ _ _ _).has HR4 (by omega), (Only.set _ _ _ _).below hb4 hb4.size (by omega)⟩
    clear HRD h3 HV3 HR3 hb3 h4 ho4 HR4 hb4 HV4
    go_wp2_with fail
    generalize w4.setCell ⟨w2.heap.size, 2, none⟩ (.int .i64 (wrap64 (wordOf (R.next 8 st1).1 : Nat))) = W at HM ⊢
    clear hx hf
  case' inr.inr.inr.inl =>
    have HRD := Lib.hid (show rd = (⟨3, false, 0, wordOf (R.next 8 st1).1, []⟩, (R.next 8 st1).2) by rw [hrd]; simp); clear hrd
    go_enter Try.func53, Try.ntmps53
    go_wp2_with fail
    refine (read_any l _).mono ?_
    rintro r w1 ⟨rfl, hr, hb, hs⟩
    have HR0 := (Has.made w 38 (vcs 0 false 0 0 [])).below hb (by simp)
    have hb0 : Below w.heap.size w w1 := (up1 _).trans (hb.mono (by simp))
    simp only [World.size_alloc] at hr hs
    clear hb
    go_wp2_with fail
    refine (HNUM.out _ _ _ hr).mono ?_
    rintro r w2 ⟨rfl, h2, ho2⟩
    have hs2 : w.heap.size + 3 ≤ w2.heap.size := by have := ho2.size; omega
    have HR2 := ho2.has HR0 (by omega)
    have hb2 : Below w.heap.size w w2 := ho2.below hb0 hb0.size (by omega)
    have HV3 := Has.made w2 38 (vcs 3 false 0 0 [])
    have h3 : Rd (w2.alloc (.cells (vcs 3 false 0 0 []) 38)) (w.heap.size + 1 + 1) (w.heap.size + 1) st1 := h2.below (up1 _) (Nat.le_refl _)
    have HR3 := HR2.of_alloc (.cells (vcs 3 false 0 0 []) 38)
    have hb3 : Below w.heap.size w (w2.alloc (.cells (vcs 3 false 0 0 []) 38)) := hb2.alloc (by omega) _
    clear hb0 HR0 hr hs ho2 h2 HR2 hb2
    go_wp2_with fail
    refine (readWord_any _ _ st1 _ h3 HCAP.out).mono ?_
    rintro r w4 ⟨rfl, h4, ho4⟩
    have HV4 := ho4.has HV3 (by omega)
    have HR4 := ho4.has HR3 (by omega)
    have hb4 : Below w.heap.size w w4 := ho4.below hb3 hb3.size (by omega)
    have hx := lies HV4
    have hf := HV4.free 3
    have HM : Mid w (w4.setCell ⟨w2.heap.size, 3, none⟩ (.int .u64 (wordOf (R.next 8 st1).1 : Nat))) (w.heap.size + 1 + 1) (w.heap.size + 1) w2.heap.size rd.1 rd.2 := by
      rw [HRD.out]
      have HS := HV4.set 3 (.int .u64 (wordOf (R.next 8 st1).1 : Nat))
      simp at HS
      exact ⟨h4.only (Only.set _ _ _ _) (by omega) (by omega), HS, (Only.set _ _ _ _).has HR4 (by omega), (Only.set _ _ _ _).below hb4 hb4.size (by omega)⟩
    clear HRD h3 HV3 HR3 hb3 h4 ho4 HR4 hb4 HV4
    go_wp2_with fail
    generalize w4.setCell ⟨w2.heap.size, 3, none⟩ (.int .u64 (wordOf (R.next 8 st1).1 : Nat)) = W at HM ⊢
    clear hx hf
  case' inr.inr.inr.inr =>
    have HRD := Lib.hid (show rd = (⟨4, false, 0, 0, (R.text 200 st1).1⟩, (R.text 200 st1).2) by rw [hrd]; simp); clear hrd
    go_enter Try.func53, Try.ntmps53
    go_wp2_with fail
    refine (read_any l _).mono ?_
    rintro r w1 ⟨rfl, hr, hb, hs⟩
    have HR0 := (Has.made w 38 (vcs 0 false 0 0 [])).below hb (by simp)
    have hb0 : Below w.heap.size w w1 := (up1 _).trans (hb.mono (by simp))
    simp only [World.size_alloc] at hr hs
    clear hb
    go_wp2_with fail
    refine (HNUM.out _ _ _ hr).mono ?_
    rintro r w2 ⟨rfl, h2, ho2⟩
    have hs2 : w.heap.size + 3 ≤ w2.heap.size := by have := ho2.size; omega
    have HR2 := ho2.has HR0 (by omega)
    have hb2 : Below w.heap.size w w2 := ho2.below hb0 hb0.size (by omega)
    have HV3 := Has.made w2 38 (vcs 4 false 0 0 [])
    have h3 : Rd (w2.alloc (.cells (vcs 4 false 0 0 []) 38)) (w.heap.size + 1 + 1) (w.heap.size + 1) st1 := h2.below (up1 _) (Nat.le_refl _)
    have HR3 := HR2.of_alloc (.cells (vcs 4 false 0 0 []) 38)
    have hb3 : Below w.heap.size w (w2.alloc (.cells (vcs 4 false 0 0 []) 38)) := hb2.alloc (by omega) _
    clear hb0 HR0 hr hs ho2 h2 HR2 hb2
    go_wp2_with fail
    refine (text_rd 200 _ _ st1 _ h3 HCAP.out).mono ?_
    rintro r w4 ⟨rfl, h4, ho4⟩
    have HV4 := ho4.has HV3 (by omega)
    have HR4 := ho4.has HR3 (by omega)
    have hb4 : Below w.heap.size w w4 := ho4.below hb3 hb3.size (by omega)
    have hx := lies HV4
    have hf := HV4.free 4
    have HM : Mid w (w4.setCell ⟨w2.heap.size, 4, none⟩ (.string (S (R.text 200 st1).1))) (w.heap.size + 1 + 1) (w.heap.size + 1) w2.heap.size rd.1 rd.2 := by
      rw [HRD.out]
      have HS := HV4.set 4 (.string (S (R.text 200 st1).1))
      simp at HS
      exact ⟨h4.only (Only.set _ _ _ _) (by omega) (by omega), HS, (Only.set _ _ _ _).has HR4 (by omega), (Only.set _ _ _ _).below hb4 hb4.size (by omega)⟩
    clear HRD h3 HV3 HR3 hb3 h4 ho4 HR4 hb4 HV4
    go_wp2_with fail
    generalize w4.setCell ⟨w2.heap.size, 4, none⟩ (.string (S (R.text 200 st1).1)) = W at HM ⊢
    clear hx hf
  all_goals
    obtain ⟨hr, HX, HR, hb⟩ := HM
    refine (end_rd _ _ _ _ hr).mono ?_
    rintro r w5 ⟨rfl, h5, ho5⟩
    have HX5 := ho5.has HX (by omega)
    have HR5 := ho5.has HR (by omega)
    have hb5 : Below w.heap.size w w5 := ho5.below hb hb.size (by omega)
    have hxr := lies HR5
    have hxx := lies HX5
    clear hr HX HR hb h5 ho5
    have hvv := HV.out
    generalize R.fin rd.2 = fin at hvv ⊢
    generalize hee : fin.2 = e at hvv ⊢
    by_cases he : e = 0
    · subst he
      have hR := fun W => right_any rd.1 hok W
      generalize hrr : rd.1.right = rr at hvv hR
      rw [show rd.1.v = .agg (vcs rd.1.kind rd.1.flag rd.1.int rd.1.bits rd.1.text) from rfl] at hR
      have HRR := Lib.hid hR
      have HVV := Lib.hid hvv
      clear hR hvv hrr hee
      go_wp2_with fail
      refine (HRR.out _).mono ?_
      rintro r w6 ⟨rfl, hb6⟩
      have HX6 := HX5.below hb6 HX5.lt
      have HR6 := HR5.below hb6 HR5.lt
      have hb66 := hb5.trans (hb6.mono hb5.size)
      clear hb5 hb6 HX5 HR5 hxr hxx
      have hxr := lies HR6
      have hxx := lies HX6
      have hf0 := HR6.free 0
      have hf1 := HR6.free 1
      have hf2 := HR6.free 2
      have hf3 := HR6.free 3
      have hf4 := HR6.free 4
      cases rr
      · have HS := Lib.hid (HR6.stored 0 false 0 0 [])
        have HB0 := Lib.hid ((stored_only w6 w.heap.size 0 false 0 0 []).below hb66 hb66.size (Nat.le_refl _))
        clear hb66 HR6 HX6
        go_wp2_with fail
        exact ret_val2 (p := 2) (u := 3) rfl w.heap.size _ (.int .i64 4) rfl rfl rfl HS.out rfl ⟨by rw [HVV.out]; rfl, HB0.out⟩
      · have HS := Lib.hid (HR6.stored rd.1.kind rd.1.flag rd.1.int rd.1.bits rd.1.text)
        have HB0 := Lib.hid ((stored_only w6 w.heap.size rd.1.kind rd.1.flag rd.1.int rd.1.bits rd.1.text).below hb66 hb66.size (Nat.le_refl _))
        clear hb66 HR6 HX6
        go_wp2_with fail
        exact ret_val2 (p := 2) (u := 3) rfl w.heap.size _ (.int .i64 0) rfl rfl rfl HS.out rfl ⟨by rw [HVV.out]; rfl, HB0.out⟩
    · have hbe : (e != 0) = true := by simpa using he
      have HVV := Lib.hid (show out = (zeroV, e) by rw [hvv, if_pos he])
      have hf0 := HR5.free 0
      have hf1 := HR5.free 1
      have hf2 := HR5.free 2
      have hf3 := HR5.free 3
      have hf4 := HR5.free 4
      have HS := Lib.hid (HR5.stored 0 false 0 0 [])
      have HB0 := Lib.hid ((stored_only w5 w.heap.size 0 false 0 0 []).below hb5 hb5.size (Nat.le_refl _))
      clear hb5 HR5 HX5 hvv hee he
      go_wp2_with fail
      exact ret_val2 (p := 2) (u := 3) rfl w.heap.size _ (.int .i64 e) rfl rfl rfl HS.out rfl ⟨by rw [HVV.out]; rfl, HB0.out⟩
end Go.Proofs.Ytfppobnfajkmmaa
