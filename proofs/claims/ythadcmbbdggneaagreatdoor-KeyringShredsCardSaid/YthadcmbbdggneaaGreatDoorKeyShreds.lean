/-
  KeyringShreds, walked.
-/
import Derived.Test.YthadcmbbdggneaaGreatDoorKeyAw
import Derived.Test.YthadcmbbdggneaaGreatDoorDskI
import Derived.Laws.DeepStrings4
namespace Go.Proofs.YthadcmbbdggneaaGreatDoor
open Go.RowKit
set_option linter.unusedVariables false

namespace Key
/-- A sector of a disk's image. -/
theorem img_at : ∀ (L : List Dsk.Sec) (k : Nat) (s : Dsk.Sec), (∀ x ∈ L, x.sure.length = 64) → L[k]? = some s → ((Dsk.img L).take (64 * (k + 1))).drop (64 * k) = s.sure := by
  intro L k s h hs
  have hk : k < L.length := (List.getElem?_eq_some_iff.1 hs).1
  have h1 : (Dsk.img (L.take k)).length = 64 * k := by
    rw [Dsk.img_len (fun x hx => h x (List.mem_of_mem_take hx)), List.length_take]
    omega
  have h2 : (Dsk.img (L.take (k + 1))).length = 64 * (k + 1) := by
    rw [Dsk.img_len (fun x hx => h x (List.mem_of_mem_take hx)), List.length_take]
    omega
  have h3 : Dsk.img L = Dsk.img (L.take (k + 1)) ++ Dsk.img (L.drop (k + 1)) := by
    conv => lhs; rw [← List.take_append_drop (k + 1) L]
    unfold Dsk.img
    rw [List.map_append, List.flatten_append]
  have h4 : (Dsk.img L).take (64 * (k + 1)) = Dsk.img (L.take (k + 1)) := by
    rw [h3, ← h2, List.take_left]
  have h5 : (Dsk.img (L.take k) ++ s.sure).drop (Dsk.img (L.take k)).length = s.sure := List.drop_left
  rw [h4, Dsk.img_next hs, ← h1, h5]
/-- What a key is told as: 0 is a key, too. -/
def code (c : Nat) : Nat := if c = 0 then 256 else c
theorem code_pos (c : Nat) : code c ≠ 0 := by
  unfold code
  split
  · decide
  · assumption
theorem code_key (c : Nat) : keyT (code c) = keyT c := by
  unfold code
  split
  · rename_i h; subst h; rfl
  · rfl
end Key
/-- A ring whose keys are K; the disk's image; is the power on? -/
def Shd (w0 W : World) (R : RB) (K : Nat → Nat) (im : List UInt8) (u : Bool) (m : Nat) : Prop := ∃ (wn sh : Nat) (d : Dsk.St), RingAt W R.rb R.gg R.g R.bd R.mb 1 wn 5 8 sh d ∧ Below w0.heap.size w0 W ∧ (∀ k ∈ R.all, w0.heap.size ≤ k) ∧ d.up = u ∧ Key.KOn K d ∧ Dsk.img d.secs = im ∧ d.falls ≤ m
section
variable {w0 W W' : World} {R : RB} {K : Nat → Nat} {im : List UInt8} {u : Bool} {m : Nat}
theorem Rst.shd (h : Rst w0 W R K m) (hm : m ≤ 1000) : ∃ im : List UInt8, Shd w0 W R K im true m ∧ im.length = 1280 ∧ ∀ j, j < 8 → K j = 0 → (im.take (64 * (5 + j + 1))).drop (64 * (5 + j)) = Grd.noughts := by
  obtain ⟨wn, sh, d, h1, h2, h3, h4, h5, h6, h7⟩ := h
  have hg : ∀ x ∈ d.secs, x.sure.length = 64 := fun x hx => (h1.ring.grd.disk.good x hx).1
  refine ⟨_, ⟨wn, sh, d, h1.ring, h1.bel, h1.los, h1.up, h2, rfl, by omega⟩, ?_, fun j hj h0 => ?_⟩
  · rw [Dsk.img_len hg, h2.len]
  · obtain ⟨x, hx, hs⟩ := h2.slot j hj
    rw [Key.img_at d.secs (5 + j) x hg hx]
    rcases hs with ⟨_, e⟩ | ⟨e, _⟩
    · exact e
    · exact absurd h0 e
theorem Shd.below (h : Shd w0 W R K im u m) (hb : Below W.heap.size W W') : Shd w0 W' R K im u m := by
  obtain ⟨wn, sh, d, h1, h2, h3⟩ := h
  exact ⟨wn, sh, d, h1.below hb, h2.trans (hb.mono h2.size), h3⟩
theorem Shd.bel (h : Shd w0 W R K im u m) : Below w0.heap.size w0 W := by
  obtain ⟨wn, sh, d, h1, h2, h3⟩ := h
  exact h2
theorem Shd.image (h : Shd w0 W R K im u m) : Calls Tryz.prog 26 #[.pointer (some ⟨R.g, 0, none⟩)] W fun e w' => e = .returned (.string (S im)) ∧ Shd w0 w' R K im u m := by
  have h' := h
  obtain ⟨wn, sh, d, h1, h2, h3, h4, h5, rfl, h7⟩ := h
  exact (image_any h1.grd.disk).mono fun e w' ⟨he, hb⟩ => ⟨he, h'.below hb⟩
theorem Shd.crash (h : Shd w0 W R K im true m) (hm : m ≤ 1000) (f : Dsk.Fall) (hf : Fok f) : Calls Tryz.prog 27 #[.pointer (some ⟨R.g, 0, none⟩), .agg #[.int .u64 (f.keep : Int), .int .i64 f.tear]] W fun e w' => (∃ c, e = .returned (.int .i64 c)) ∧ Shd w0 w' R K im false (m + 1) := by
  obtain ⟨wn, sh, d, h1, h2, h3, h4, h5, h6, h7⟩ := h
  refine (crash_any h1.grd.disk (by omega) f hf).mono ?_
  rintro e w' ⟨rfl, hd, hmm⟩
  have he : Dsk.crash d f = (0, Dsk.fall f d) := by
    unfold Dsk.crash
    rw [if_neg (by rw [h4]; decide)]
  have hs : (Dsk.fall f d).secs = d.secs := Key.fallGo_id _ 0 h5.free
  rw [he] at hd ⊢
  refine ⟨⟨_, rfl⟩, wn, sh, _, h1.turn (h1.grd.turn hd hmm) hmm, hmm.below h2 h2.size (fun k hk => h3 k (by unfold RB.all; simp only [List.mem_cons, List.not_mem_nil, or_false] at hk ⊢; omega)), h3, rfl, Key.fall_none h5 f, by show Dsk.img (Dsk.fall f d).secs = im; rw [hs]; exact h6, by show d.falls + 1 ≤ m + 1; omega⟩
theorem Shd.start (h : Shd w0 W R K im false m) : Calls Tryz.prog 28 #[.pointer (some ⟨R.g, 0, none⟩)] W fun e w' => e = .returned (.int .i64 0) ∧ Shd w0 w' R K im true m := by
  obtain ⟨wn, sh, d, h1, h2, h3, h4, h5, h6, h7⟩ := h
  refine (start_any h1.grd.disk).mono ?_
  have he : Dsk.start d = (0, { d with up := true }) := by
    unfold Dsk.start
    rw [if_neg (by rw [h4]; decide)]
  rw [he]
  rintro e w' ⟨rfl, hd, hmm⟩
  exact ⟨rfl, wn, sh, _, h1.turn (h1.grd.turn hd hmm) hmm, hmm.below h2 h2.size (fun k hk => h3 k (by unfold RB.all; simp only [List.mem_cons, List.not_mem_nil, or_false] at hk ⊢; omega)), h3, rfl, h5.same rfl, h6, h7⟩
theorem Shd.free (h : Shd w0 W R K im true m) {j : Nat} (hj : j < 8) {q : Bool} (hq : q = decide (K j = 0)) :
    Calls Tryz.prog 22 #[.pointer (some ⟨R.rb, 0, none⟩), .int .i64 (j : Int)] W fun e w' => e = .returned (.bool q) ∧ Shd w0 w' R K im true m := by
  have h' := h
  obtain ⟨wn, sh, d, h1, h2, h3, h4, h5, h6, h7⟩ := h
  have hr : RAt w0 W R 1 wn sh d := ⟨h1, h2, h4, h3⟩
  exact (yfree_any hr h5 hj).mono fun e w' ⟨he, hb⟩ => ⟨by rw [he, hq], h'.below hb⟩
end
theorem run_make64 (W : World) : (Instr.makeSlice 62 (.int .i64 64) (.int .i64 64)).run Tryz.prog W = .ok (.slice (some ⟨W.heap.size, 0, none⟩) 64 64) (W.alloc (.cells (fillc 0 64 0) 5)) := run_make_bytes 0 64 (by decide) W
theorem conv_64 (W : World) (b : Nat) (h : Has W b 5 (fillc 0 64 0)) : (convert 62 9 (.slice (some ⟨b, 0, none⟩) 64 64)).run Tryz.prog W = .ok (.string (S Grd.noughts)) W :=
  conv_text Tryz.underlying62 Tryz.underlying5 Tryz.underlying9 Grd.noughts Grd.noughts_len (fun i hi => by
    rw [Nat.zero_add, h.cell]
    unfold fillc
    rw [List.replicate_zero, List.nil_append, Nat.sub_zero, List.getElem?_toArray]
    rfl)
set_option maxRecDepth 100000
set_option maxHeartbeats 4000000 in
theorem kshreds_not (i : Int) (c o : Nat) (hb : i < 0 ∨ 7 ≤ i ∨ c = 0 ∨ c = o) (f : Dsk.Fall) (w : World) : Calls Tryz.prog 5 #[.int .i64 i, .int .u8 (c : Int), .int .u8 (o : Int), .agg #[.int .u64 (f.keep : Int), .int .i64 f.tear]] w fun e w' => e = .returned (.bool true) ∧ Below w.heap.size w w' := by
  have HAW := Lib.hid (fun W => kawake_any W)
  have hb0 : Below w.heap.size w (w.alloc (.cells #[.int .u64 (f.keep : Int), .int .i64 f.tear] 36)) := (Below.refl _ w).alloc (Nat.le_refl _) _
  have HNEW : Hid (∀ W, Calls Tryz.prog 7 #[.int .i64 20] W (NewDPost W 20)) := Lib.hid (fun W => newd_any 20 (by decide) (by decide) W)
  unfold NewDPost at HNEW
  have HMD : Hid (∀ (w W : World) (g bd mb : Nat), DiskAt W g bd mb (Dsk.fresh 20) → Below w.heap.size w W → w.heap.size ≤ g → w.heap.size ≤ bd → w.heap.size ≤ mb → Calls Tryz.prog 8 #[.pointer (some ⟨g, 0, none⟩), .int .i64 1] W fun e w' => ∃ R : RB, R.g = g ∧ R.bd = bd ∧ R.mb = mb ∧ e = .returned (.pointer (some ⟨R.rb, 0, none⟩)) ∧ Rst w w' R (fun _ => 0) 0) :=
    Lib.hid (fun w W g bd mb h1 h2 h3 h4 h5 => Rst.made h1 h2 (by
      intro k hk
      simp only [List.mem_cons, List.not_mem_nil, or_false] at hk
      rcases hk with rfl | rfl | rfl <;> assumption))
  have HB := Lib.hid hb0
  clear hb0
  generalize Dsk.fresh 20 = d0 at HNEW HMD
  have hor : i < 0 ∨ (¬ i < 0 ∧ 7 ≤ i) ∨ (¬ i < 0 ∧ ¬ 7 ≤ i ∧ ((c : Int) == 0) = true) ∨ (¬ i < 0 ∧ ¬ 7 ≤ i ∧ ((c : Int) == 0) = false ∧ ((c : Int) == (o : Int)) = true) := by
    rw [beq_iff_eq, beq_eq_false_iff_ne, beq_iff_eq]
    omega
  clear hb
  generalize (c : Int) = ci at hor ⊢
  generalize (o : Int) = oi at hor ⊢
  rcases hor with q1 | ⟨q1, q2⟩ | ⟨q1, q2, q3⟩ | ⟨q1, q2, q3, q4⟩
  all_goals
    go_enter Tryz.func5, Tryz.ntmps5
    go_upto_region 1 with fail
    generalize w.alloc (.cells #[.int .u64 (f.keep : Int), .int .i64 f.tear] 36) = W0 at HB ⊢
    go_wp2_with fail
    refine (HNEW.out _).mono ?_
    rintro r w1 ⟨g, bd, mb, rfl, hd, hb, l1, l2, l3⟩
    have HD := Lib.hid (And.intro hd (And.intro hb (And.intro l1 (And.intro l2 l3))))
    clear hd hb l1 l2 l3 HNEW
    go_wp2_with fail
    refine (HMD.out _ _ _ _ _ HD.out.1 HD.out.2.1 HD.out.2.2.1 HD.out.2.2.2.1 HD.out.2.2.2.2).mono ?_
    rintro r w2 ⟨R, r1, r2, r3, rfl, hr⟩
    have HR := Lib.hid hr.bel
    clear hr r1 r2 r3 HMD HD
    go_wp2_with fail
    refine (HAW.out _).mono ?_
    rintro r w3 ⟨rfl, hb⟩
    have HF := Lib.hid (HB.out.trans ((HR.out.trans (hb.mono HR.out.size)).mono HB.out.size))
    clear hb
    go_wp2_with fail
    go_ret
    exact ⟨rfl, HF.out⟩
set_option maxHeartbeats 8000000 in
theorem kshreds_ok (k c o : Nat) (hk : k < 7) (hc0 : c ≠ 0) (hco : c ≠ o) (hc : c < 256) (ho : o < 256) (f : Dsk.Fall) (hf : Fok f) (w : World) : Calls Tryz.prog 5 #[.int .i64 (k : Int), .int .u8 (c : Int), .int .u8 (o : Int), .agg #[.int .u64 (f.keep : Int), .int .i64 f.tear]] w fun e w' => e = .returned (.bool true) ∧ Below w.heap.size w w' := by
  have HAW := Lib.hid (fun W => kawake_any W)
  have hb0 : Below w.heap.size w (w.alloc (.cells #[.int .u64 (f.keep : Int), .int .i64 f.tear] 36)) := (Below.refl _ w).alloc (Nat.le_refl _) _
  have hfb := Has.made w 36 #[.int .u64 (f.keep : Int), .int .i64 f.tear]
  have HNEW : Hid (∀ W, Calls Tryz.prog 7 #[.int .i64 20] W (NewDPost W 20)) := Lib.hid (fun W => newd_any 20 (by decide) (by decide) W)
  unfold NewDPost at HNEW
  have HMD : Hid (∀ (w W : World) (g bd mb : Nat), DiskAt W g bd mb (Dsk.fresh 20) → Below w.heap.size w W → w.heap.size ≤ g → w.heap.size ≤ bd → w.heap.size ≤ mb → Calls Tryz.prog 8 #[.pointer (some ⟨g, 0, none⟩), .int .i64 1] W fun e w' => ∃ R : RB, R.g = g ∧ e = .returned (.pointer (some ⟨R.rb, 0, none⟩)) ∧ Rst w w' R (fun _ => 0) 0) :=
    Lib.hid (fun w W g bd mb h1 h2 h3 h4 h5 => (Rst.made h1 h2 (by
      intro k hk
      simp only [List.mem_cons, List.not_mem_nil, or_false] at hk
      rcases hk with rfl | rfl | rfl <;> assumption)).mono (fun e w' ⟨R, q1, _, _, q4, q5⟩ => ⟨R, q1, q4, q5⟩))
  have HKC := Lib.hid (fun W => key_any c hc W)
  have HKO := Lib.hid (fun W => key_any o ho W)
  unfold KeyPost at HKC HKO
  obtain ⟨K1, hK1⟩ : ∃ K1, K1 = Key.upd (fun _ => 0) k c := ⟨_, rfl⟩
  obtain ⟨K2, hK2⟩ : ∃ K2, K2 = Key.upd K1 (k + 1) (Key.code o) := ⟨_, rfl⟩
  obtain ⟨K3, hK3⟩ : ∃ K3, K3 = Key.upd K2 k 0 := ⟨_, rfl⟩
  have e1 : K1 (k + 1) = 0 := by rw [hK1]; unfold Key.upd; rw [if_neg (by omega)]
  have e2 : K2 k ≠ 0 := by rw [hK2, hK1]; unfold Key.upd; rw [if_neg (by omega), if_pos rfl]; exact hc0
  have e3 : K3 k = 0 := by rw [hK3]; unfold Key.upd; rw [if_pos rfl]
  have e4 : K3 (k + 1) ≠ 0 := by rw [hK3, hK2]; unfold Key.upd; rw [if_neg (by omega), if_pos rfl]; exact Key.code_pos o
  have hkc : ((k + 1 : Nat) : Int) = (k : Int) + 1 := by omega
  have HP1 : Hid (∀ (w W : World) (R : RB), Rst w W R (fun _ => 0) 0 → Calls Tryz.prog 24 #[.pointer (some ⟨R.rb, 0, none⟩), .int .i64 (k : Int), .string (S (Key.keyT c))] W fun e w' => e = .returned (.int .i64 0) ∧ Rst w w' R K1 2) := Lib.hid (fun w W R h => by
    have hq := h.put (by decide) (j := k) (c := c) (by omega) rfl hc0
    rw [← hK1] at hq
    exact hq)
  have HP2 : Hid (∀ (w W : World) (R : RB), Rst w W R K1 2 → Calls Tryz.prog 24 #[.pointer (some ⟨R.rb, 0, none⟩), .int .i64 ((k : Int) + 1), .string (S (Key.keyT o))] W fun e w' => e = .returned (.int .i64 0) ∧ Rst w w' R K2 4) := Lib.hid (fun w W R h => by
    have hq := h.put (by decide) (j := k + 1) (c := Key.code o) (by omega) e1 (Key.code_pos o)
    rw [← hK2, Key.code_key, hkc] at hq
    exact hq)
  have HSD : Hid (∀ (w W : World) (R : RB), Rst w W R K2 4 → Calls Tryz.prog 25 #[.pointer (some ⟨R.rb, 0, none⟩), .int .i64 (k : Int)] W fun e w' => e = .returned (.int .i64 0) ∧ Rst w w' R K3 6) := Lib.hid (fun w W R h => by
    have hq := h.shred (by decide) (j := k) (by omega) e2
    rw [← hK3] at hq
    exact hq)
  have HSH : Hid (∀ (w W : World) (R : RB), Rst w W R K3 6 → ∃ im : List UInt8, Shd w W R K3 im true 6 ∧ im.length = 1280 ∧ (im.take (64 * (5 + k + 1))).drop (64 * (5 + k)) = Grd.noughts) := Lib.hid (fun w W R h => by
    obtain ⟨im, q1, q2, q3⟩ := h.shd (by decide)
    exact ⟨im, q1, q2, q3 k (by omega) e3⟩)
  have HIM : Hid (∀ (w W : World) (R : RB) (im : List UInt8) (u : Bool) (m : Nat), Shd w W R K3 im u m → Calls Tryz.prog 26 #[.pointer (some ⟨R.g, 0, none⟩)] W fun e w' => e = .returned (.string (S im)) ∧ Shd w w' R K3 im u m) := Lib.hid (fun w W R im u m h => h.image)
  have HCR : Hid (∀ (w W : World) (R : RB) (im : List UInt8), Shd w W R K3 im true 6 → Calls Tryz.prog 27 #[.pointer (some ⟨R.g, 0, none⟩), .agg #[.int .u64 (f.keep : Int), .int .i64 f.tear]] W fun e w' => (∃ c, e = .returned (.int .i64 c)) ∧ Shd w w' R K3 im false 7) := Lib.hid (fun w W R im h => h.crash (by decide) f hf)
  have HST : Hid (∀ (w W : World) (R : RB) (im : List UInt8), Shd w W R K3 im false 7 → Calls Tryz.prog 28 #[.pointer (some ⟨R.g, 0, none⟩)] W fun e w' => e = .returned (.int .i64 0) ∧ Shd w w' R K3 im true 7) := Lib.hid (fun w W R im h => h.start)
  have HF1 : Hid (∀ (w W : World) (R : RB) (im : List UInt8), Shd w W R K3 im true 7 → Calls Tryz.prog 22 #[.pointer (some ⟨R.rb, 0, none⟩), .int .i64 (k : Int)] W fun e w' => e = .returned (.bool true) ∧ Shd w w' R K3 im true 7) := Lib.hid (fun w W R im h => h.free (j := k) (by omega) (decide_eq_true e3).symm)
  have HF2 : Hid (∀ (w W : World) (R : RB) (im : List UInt8), Shd w W R K3 im true 7 → Calls Tryz.prog 22 #[.pointer (some ⟨R.rb, 0, none⟩), .int .i64 ((k : Int) + 1)] W fun e w' => e = .returned (.bool false) ∧ Shd w w' R K3 im true 7) := Lib.hid (fun w W R im h => by
    have hq := h.free (j := k + 1) (by omega) (decide_eq_false e4).symm
    rw [hkc] at hq
    exact hq)
  have HB := Lib.hid hb0
  have HFB : Hid (∀ W, Below (w.alloc (.cells #[.int .u64 (f.keep : Int), .int .i64 f.tear] 36)).heap.size (w.alloc (.cells #[.int .u64 (f.keep : Int), .int .i64 f.tear] 36)) W → W.cell? ⟨w.heap.size, 0, none⟩ = some (.int .u64 (f.keep : Int)) ∧ W.cell? ⟨w.heap.size, 1, none⟩ = some (.int .i64 f.tear)) :=
    Lib.hid (fun W hb => ⟨(hfb.below hb hfb.lt).cell 0, (hfb.below hb hfb.lt).cell 1⟩)
  have q1 : ¬ (k : Int) < 0 := by omega
  have q2 : ¬ (7 : Int) ≤ (k : Int) := by omega
  have q3 : ((c : Int) == 0) = false := by rw [beq_eq_false_iff_ne]; omega
  have q4 : ((c : Int) == (o : Int)) = false := by rw [beq_eq_false_iff_ne]; omega
  have q5 : IntKind.i64.wrap ((k : Int) + 1) = (k : Int) + 1 := by rw [IntKind.wrap_i64]; omega
  obtain ⟨p5, hp5⟩ : ∃ p : Int, p = 5 + (k : Int) := ⟨_, rfl⟩
  obtain ⟨p6, hp6⟩ : ∃ p : Int, p = 6 + (k : Int) := ⟨_, rfl⟩
  obtain ⟨pa, hpa⟩ : ∃ p : Int, p = 64 * (5 + (k : Int)) := ⟨_, rfl⟩
  obtain ⟨pb, hpb⟩ : ∃ p : Int, p = 64 * (6 + (k : Int)) := ⟨_, rfl⟩
  have q6 : IntKind.i64.wrap (5 + (k : Int)) = p5 := by rw [IntKind.wrap_i64]; omega
  have q7 : IntKind.i64.wrap (6 + (k : Int)) = p6 := by rw [IntKind.wrap_i64]; omega
  have q8 : IntKind.i64.wrap (64 * p5) = pa := by rw [IntKind.wrap_i64]; omega
  have q9 : IntKind.i64.wrap (64 * p6) = pb := by rw [IntKind.wrap_i64]; omega
  have HSL : Hid (∀ (im : List UInt8) (W : World), im.length = 1280 → (im.take (64 * (5 + k + 1))).drop (64 * (5 + k)) = Grd.noughts → (Instr.slice 9 (.string (S im)) (some (.int .i64 pa)) (some (.int .i64 pb)) none).run Tryz.prog W = .ok (.string (S Grd.noughts)) W) := Lib.hid (fun im W hl hn => by
    have e1 : pa.toNat = 64 * (5 + k) := by omega
    have e2 : pb.toNat = 64 * (5 + k + 1) := by omega
    rw [run_slice_string_if W 9 (S im) .i64 .i64 _ _ Tryz.underlying9, if_pos ⟨by omega, by rw [S_size]; omega⟩, if_pos ⟨by omega, by omega⟩, S_extract, e1, e2, hn])
  have HMK := Lib.hid (fun W => run_make64 W)
  have HCV := Lib.hid (fun W b h => conv_64 W b h)
  have HNN : Hid ((Grd.noughts == Grd.noughts) = true) := Lib.hid (by rw [beq_self_eq_true])
  clear hb0 hfb hK1 hK2 hK3 e1 e2 e3 e4 hkc hf hco hc ho hc0 hp5 hp6 hpa hpb
  generalize Dsk.fresh 20 = d0 at HNEW HMD
  generalize Key.keyT c = kc at HKC HP1
  generalize Key.keyT o = ko at HKO HP2
  generalize (c : Int) = ci at q3 q4 HKC ⊢
  generalize (o : Int) = oi at q4 HKO ⊢
  generalize Grd.noughts = nz at *
  generalize (fun _ => 0 : Nat → Nat) = K0 at *
  go_enter Tryz.func5, Tryz.ntmps5
  go_upto_region 1 with fail
  generalize w.alloc (.cells #[.int .u64 (f.keep : Int), .int .i64 f.tear] 36) = W0 at HB HFB ⊢
  go_wp2_with fail
  refine (HNEW.out _).mono ?_
  rintro r w1 ⟨g, bd, mb, rfl, hd, hb, l1, l2, l3⟩
  have HD := Lib.hid (And.intro hd (And.intro hb (And.intro l1 (And.intro l2 l3))))
  clear hd hb l1 l2 l3 HNEW
  go_wp2_with fail
  refine (HMD.out _ _ _ _ _ HD.out.1 HD.out.2.1 HD.out.2.2.1 HD.out.2.2.2.1 HD.out.2.2.2.2).mono ?_
  rintro r w2 ⟨R, rfl, rfl, hr⟩
  have HR := Lib.hid hr
  clear hr HMD HD
  go_wp2_with fail
  refine (HKC.out _).mono ?_
  rintro r w3 ⟨rfl, hb⟩
  have HR3 := Lib.hid (HR.out.below hb)
  clear hb HR HKC
  go_wp2_with fail
  refine (HP1.out _ _ _ HR3.out).mono ?_
  rintro r w4 ⟨rfl, hr⟩
  have HR4 := Lib.hid hr
  clear hr HR3 HP1
  go_wp2_with fail
  refine (HKO.out _).mono ?_
  rintro r w5 ⟨rfl, hb⟩
  have HR5 := Lib.hid (HR4.out.below hb)
  clear hb HR4 HKO
  go_wp2_with fail
  refine (HP2.out _ _ _ HR5.out).mono ?_
  rintro r w6 ⟨rfl, hr⟩
  have HR6 := Lib.hid hr
  clear hr HR5 HP2
  go_wp2_with fail
  refine (HSD.out _ _ _ HR6.out).mono ?_
  rintro r w7 ⟨rfl, hr⟩
  obtain ⟨im, hsh, hil, hin⟩ := HSH.out _ _ _ hr
  have HS7 := Lib.hid hsh
  have hsl := fun W => HSL.out im W hil hin
  have hli : (im.length : Int) = 1280 := by rw [hil]; rfl
  have hii : (im == im) = true := by rw [beq_self_eq_true]
  have hin2 : (im != im) = false := by rw [bne_self_eq_false]
  clear hr hsh hil hin HR6 HSD HSH HSL
  go_wp2_with fail
  refine (HIM.out _ _ _ _ _ _ HS7.out).mono ?_
  rintro r w8 ⟨rfl, hr⟩
  have HS8 := Lib.hid hr
  obtain ⟨y0, y1⟩ := HFB.out w8 hr.bel
  clear hr HS7
  go_wp2_with fail
  refine (HCR.out _ _ _ _ HS8.out).mono ?_
  rintro r w9 ⟨⟨cx, rfl⟩, hr⟩
  have HS9 := Lib.hid hr
  clear hr HS8 y0 y1 HFB HCR
  go_wp2_with fail
  refine (HIM.out _ _ _ _ _ _ HS9.out).mono ?_
  rintro r w10 ⟨rfl, hr⟩
  have HS10 := Lib.hid hr
  clear hr HS9 HIM
  have hmk := HMK.out
  have hcv := HCV.out (w10.alloc (.cells (fillc 0 64 0) 5)) w10.heap.size (Has.made w10 5 (fillc 0 64 0))
  have hnn := HNN.out
  have HS11 := Lib.hid (HS10.out.below ((Below.refl _ w10).alloc (Nat.le_refl _) (.cells (fillc 0 64 0) 5)))
  clear HMK HCV HNN HS10
  generalize fillc 0 64 0 = fz at *
  go_wp2_with fail
  refine (HST.out _ _ _ _ HS11.out).mono ?_
  rintro r w11 ⟨rfl, hr⟩
  have HS12 := Lib.hid hr
  clear hr HS11 hmk hcv HST
  go_wp2_with fail
  refine (HF1.out _ _ _ _ HS12.out).mono ?_
  rintro r w12 ⟨rfl, hr⟩
  have HS13 := Lib.hid hr
  clear hr HS12 HF1
  go_wp2_with fail
  refine (HF2.out _ _ _ _ HS13.out).mono ?_
  rintro r w13 ⟨rfl, hr⟩
  have HS14 := Lib.hid hr
  clear hr HS13 HF2
  go_wp2_with fail
  refine (HAW.out _).mono ?_
  rintro r w14 ⟨rfl, hb⟩
  have HF := Lib.hid (HB.out.trans ((HS14.out.bel.trans (hb.mono HS14.out.bel.size)).mono HB.out.size))
  clear hb
  go_wp2_with fail
  go_ret
  exact ⟨rfl, HF.out⟩
theorem kwf8 {n : Int} (h : (Lit.int IntKind.u8 n).wf = true) : 0 ≤ n ∧ n ≤ 255 := by
  unfold Lit.wf at h
  rw [Bool.and_eq_true, decide_eq_true_eq, decide_eq_true_eq] at h
  exact ⟨h.1, h.2⟩
theorem kshreds_any (i c o : Int) (f : Dsk.Fall) (hf : Fok f) (hc : (Lit.int IntKind.u8 c).wf = true) (ho : (Lit.int IntKind.u8 o).wf = true) (w : World) : Calls Tryz.prog 5 #[.int .i64 i, .int .u8 c, .int .u8 o, .agg #[.int .u64 (f.keep : Int), .int .i64 f.tear]] w fun e w' => e = .returned (.bool true) ∧ Below w.heap.size w w' := by
  have h1 := kwf8 hc
  have h2 := kwf8 ho
  obtain ⟨c', rfl⟩ : ∃ c' : Nat, c = (c' : Int) := ⟨c.toNat, by omega⟩
  obtain ⟨o', rfl⟩ : ∃ o' : Nat, o = (o' : Int) := ⟨o.toNat, by omega⟩
  by_cases hb : i < 0 ∨ 7 ≤ i ∨ c' = 0 ∨ c' = o'
  · exact kshreds_not i c' o' hb f w
  · obtain ⟨k, rfl⟩ : ∃ k : Nat, i = (k : Int) := ⟨i.toNat, by omega⟩
    exact kshreds_ok k c' o' (by omega) (by omega) (by omega) (by omega) (by omega) f hf w
end Go.Proofs.YthadcmbbdggneaaGreatDoor
