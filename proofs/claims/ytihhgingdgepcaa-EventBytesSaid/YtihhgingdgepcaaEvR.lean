/-
  Event's readSlip.
-/
import Derived.Test.YtihhgingdgepcaaEvMem
import Derived.Test.YtihhgingdgepcaaEvRead
import Derived.Test.YtihhgingdgepcaaTexts
import Derived.Deep.QuietTactic
import Derived.Deep.DeepCutAuto
import Derived.Deep.CutBlock
import Derived.Laws.CopyOwn
namespace Go.Proofs.Ytihhgingdgepcaa
open Go.RowKit
set_option linter.unusedVariables false

theorem evSlpSize : (Try.prog.info? 60).map (·.size) = some 4 := by kernel_rfl
theorem ret_slp {fn : Func} {p : Tmp} {R : Ending → World → Prop} {a : Act} {w : World} (h : fn.results = #[.cell p 60]) (g : Nat) (cs : Array Value)
    (hp : a.tmps.getD p undef = .pointer (some ⟨g, 0, none⟩)) (hd : a.defers = []) (hh : Has w g 60 cs) (hcs : cs.size = 4) (hR : R (.returned (.agg cs)) w) : bodyPost Try.prog fn R .ret a w :=
  bodyPost_ret (v := .agg cs) (results_cell_row h _ _ g 60 cs (0, 0) _ hp hh Try.underlying60 rfl (by rw [hcs]; exact evSlpSize)) hd hR
theorem Only.fresh {w W W' : World} {g k : Nat} (h : Only w W g) (ho : Only W W' k) (hk : w.heap.size ≤ k) : Only w W' g :=
  ⟨ho.os.trans h.os, ho.tape.trans h.tape, ho.output.trans h.output, Nat.le_trans h.size ho.size, fun i hi hne => (ho.block i (Nat.lt_of_lt_of_le hi h.size) (fun e => by injection e with e; omega)).trans (h.block i hi hne)⟩
theorem evOnlyRow (w : World) (g : Nat) (cs : Array Value) : Only w (w.setRow g cs) g := ⟨rfl, rfl, rfl, by simp, fun i hi hn => setRow_other w g i cs (fun e => hn (by rw [e]))⟩
namespace Ev
theorem text_rest (m : Int) (st : R.St) : (R.text m st).2.1.length ≤ st.1.length := Nat.le_trans (R.next_rest _ _) (R.num_rest m st)
theorem flag_rest (st : R.St) : (R.flag st).2.1.length ≤ st.1.length := by
  have h := R.next_rest 1 st
  unfold R.flag
  generalize R.next 1 st = x at h ⊢
  obtain ⟨l, st1⟩ := x
  cases l with
  | nil => exact h
  | cons c t =>
    dsimp only at h ⊢
    split
    · rw [R.fail_rest]; exact h
    · exact h
theorem rS_rest (st : R.St) : (rS st).2.1.length ≤ st.1.length := by
  have e : rS st = if (R.flag (R.text 32 (R.text 16 st).2).2).1 = true then (⟨(R.text 16 st).1, (R.text 32 (R.text 16 st).2).1, [], true⟩, (R.flag (R.text 32 (R.text 16 st).2).2).2)
      else (⟨(R.text 16 st).1, (R.text 32 (R.text 16 st).2).1, (R.text 224 (R.flag (R.text 32 (R.text 16 st).2).2).2).1, false⟩, (R.text 224 (R.flag (R.text 32 (R.text 16 st).2).2).2).2) := rfl
  rw [e]
  have h1 := text_rest 16 st
  have h2 := text_rest 32 (R.text 16 st).2
  have h3 := flag_rest (R.text 32 (R.text 16 st).2).2
  have h4 := text_rest 224 (R.flag (R.text 32 (R.text 16 st).2).2).2
  split
  · dsimp only; omega
  · dsimp only; omega
end Ev
set_option maxRecDepth 100000 in
set_option maxHeartbeats 4000000 in
theorem rslip_any (g b : Nat) (st : R.St) (w : World) (h : Rd w g b st) (hcap : st.1.length ≤ 4000000000) (hb : b < w.heap.size) :
    Calls Try.prog 49 #[.pointer (some ⟨g, 0, none⟩)] w fun r w' => r = .returned (.agg #[.string (S (Ev.rS st).1.n), .string (S (Ev.rS st).1.p), .string (S (Ev.rS st).1.c), .bool (Ev.rS st).1.e]) ∧ Rd w' g b (Ev.rS st).2 ∧ Only w w' g := by
  have e : Ev.rS st = if (R.flag (R.text 32 (R.text 16 st).2).2).1 = true then (⟨(R.text 16 st).1, (R.text 32 (R.text 16 st).2).1, [], true⟩, (R.flag (R.text 32 (R.text 16 st).2).2).2)
      else (⟨(R.text 16 st).1, (R.text 32 (R.text 16 st).2).1, (R.text 224 (R.flag (R.text 32 (R.text 16 st).2).2).2).1, false⟩, (R.text 224 (R.flag (R.text 32 (R.text 16 st).2).2).2).2) := rfl
  have h1 := Ev.text_rest 16 st
  have h2 := Ev.text_rest 32 (R.text 16 st).2
  have h3 := Ev.flag_rest (R.text 32 (R.text 16 st).2).2
  have H1 := Lib.hid (fun W hW => text_rd 16 g b st W hW (by omega))
  have H2 := Lib.hid (fun W hW => text_rd 32 g b (R.text 16 st).2 W hW (by omega))
  have H3 := Lib.hid (fun W hW => flag_rd g b (R.text 32 (R.text 16 st).2).2 W hW (by omega))
  have H4 := Lib.hid (fun W hW => text_rd 224 g b (R.flag (R.text 32 (R.text 16 st).2).2).2 W hW (by omega))
  clear h1 h2 h3
  generalize R.text 224 (R.flag (R.text 32 (R.text 16 st).2).2).2 = x4 at *
  generalize R.flag (R.text 32 (R.text 16 st).2).2 = x3 at *
  generalize R.text 32 (R.text 16 st).2 = x2 at *
  generalize R.text 16 st = x1 at *
  generalize Ev.rS st = res at e ⊢
  obtain ⟨n, st1⟩ := x1
  obtain ⟨p, st2⟩ := x2
  obtain ⟨f, st3⟩ := x3
  obtain ⟨c, st4⟩ := x4
  obtain ⟨⟨rn, rp, rc, re⟩, rst⟩ := res
  dsimp only at *
  have HRES := Lib.hid e
  clear e
  have hb0 : Below w.heap.size w (w.alloc (.cells #[.string ⟨#[]⟩, .string ⟨#[]⟩, .string ⟨#[]⟩, .bool false] 60)) := (Below.refl _ w).alloc (Nat.le_refl _) _
  have hr0 := h.below hb0 (Nat.le_refl _)
  have hq0 := Has.made w 60 #[.string ⟨#[]⟩, .string ⟨#[]⟩, .string ⟨#[]⟩, .bool false]
  have hglt := h.lt
  have HO0 := Lib.hid (Only.of_below hb0 g)
  have hs0 : (w.alloc (.cells #[.string ⟨#[]⟩, .string ⟨#[]⟩, .string ⟨#[]⟩, .bool false] 60)).heap.size = w.heap.size + 1 := asize _ _
  clear hb0 h
  go_enter Try.func49, Try.ntmps49
  go_upto_region 1 with fail
  generalize w.alloc (.cells #[.string ⟨#[]⟩, .string ⟨#[]⟩, .string ⟨#[]⟩, .bool false] 60) = W0 at hr0 hq0 HO0 hs0 ⊢
  generalize hq : w.heap.size = q at hq0 hglt hb hs0 ⊢
  have HQ := Lib.hid hq0
  have HSZ := Lib.hid hs0
  clear hq0 hs0
  go_wp2_with fail
  refine (H1.out _ hr0).mono ?_
  rintro r w1 ⟨rfl, hr1, ho1⟩
  go_wp2_with fail
  refine (H2.out _ hr1).mono ?_
  rintro r w2 ⟨rfl, hr2, ho2⟩
  go_wp2_with fail
  refine (H3.out _ hr2).mono ?_
  rintro r w3 ⟨rfl, hr3, ho3⟩
  have HO3 := Lib.hid ((ho1.trans ho2).trans ho3)
  clear hr0 hr1 hr2 ho1 ho2 ho3 H1 H2 H3
  go_upto_region 2 with fail
  have hb4 : Below w3.heap.size w3 (w3.alloc (.cells #[.string (S n), .string (S p), .string ⟨#[]⟩, .bool f] 60)) := (Below.refl _ w3).alloc (Nat.le_refl _) _
  have hr4 := hr3.below hb4 (Nat.le_refl _)
  have ht4 := Has.made w3 60 #[.string (S n), .string (S p), .string ⟨#[]⟩, .bool f]
  have hsz3 : q < w3.heap.size := by have h1 := HO3.out.size; have := HSZ.out; omega
  have hq4 := (HO3.out.has HQ.out (by omega : q ≠ g)).below hb4 hsz3
  have HO4 := Lib.hid ((HO0.out.trans HO3.out).trans (Only.of_below hb4 g))
  have hgt : g < w3.heap.size := hr3.lt
  have hbt : b < w3.heap.size := by omega
  clear hb4 hr3 HO3 HO0 HSZ HQ
  generalize w3.alloc (.cells #[.string (S n), .string (S p), .string ⟨#[]⟩, .bool f] 60) = W4 at hr4 ht4 hq4 HO4 ⊢
  generalize w3.heap.size = t at ht4 hsz3 hgt hbt ⊢
  have y3 : W4.cell? ⟨t, 3, none⟩ = some (.bool f) := ht4.cell 3
  have HQ4 := Lib.hid hq4
  have HT4 := Lib.hid ht4
  clear hq4 ht4
  cases f with
  | true =>
    have hres := HRES.out
    rw [if_pos rfl] at hres
    injection hres with e1 e2
    injection e1 with a1 a2 a3 a4
    subst a1; subst a2; subst a3; subst a4; subst e2
    clear HRES
    go_upto_region 4 with fail
    refine wp_region_lit ?_
    refine wpList_load_row rfl 60 (.tmp 3) rfl t ?e1 _ _ _ _ HT4.out Try.underlying60 rfl evSlpSize ?_
    case e1 => rfl
    refine wpList_store_row rfl 60 (.tmp 2) (.tmp 17) rfl q #[.string (S rn), .string (S rp), .string ⟨#[]⟩, .bool true] ?e2 ?e3 _ _ HQ4.out evSlpSize rfl (by simp [Value.oneCell']) ?_
    case e2 => rfl
    case e3 => rfl
    go_wp2_with fail
    refine ret_slp (p := 2) rfl q #[.string (S rn), .string (S rp), .string ⟨#[]⟩, .bool true] rfl rfl (setRow_heap _ _ _ _ _ _ HQ4.out) rfl ⟨rfl, ?_, ?_⟩
    · exact hr4.only (evOnlyRow _ _ _) (by omega) (by omega)
    · exact HO4.out.fresh (evOnlyRow _ _ _) (by omega)
  | false =>
    have hres := HRES.out
    rw [if_neg (by decide)] at hres
    injection hres with e1 e2
    injection e1 with a1 a2 a3 a4
    subst a1; subst a2; subst a3; subst a4; subst e2
    clear HRES
    go_wp2_with fail
    refine (H4.out _ hr4).mono ?_
    rintro r w5 ⟨rfl, hr5, ho5⟩
    have ht5 := ho5.has HT4.out (by omega : t ≠ g)
    have hq5 := ho5.has HQ4.out (by omega : q ≠ g)
    have d2 : w5.cell? ⟨t, 2, none⟩ = some (.string ⟨#[]⟩) := ht5.cell 2
    have f2 := ht5.free 2
    have hs : Only w5 (w5.setCell ⟨t, 2, none⟩ (.string (S rc))) t := Only.set _ _ _ _
    have ht6 : Has (w5.setCell ⟨t, 2, none⟩ (.string (S rc))) t 60 #[.string (S rn), .string (S rp), .string (S rc), .bool false] := by simpa using ht5.set 2 (.string (S rc))
    have hq6 := hs.has hq5 (by omega : q ≠ t)
    have hr6 := hr5.only hs (by omega) (by omega)
    have HO6 := Lib.hid ((HO4.out.trans ho5).fresh hs (by omega))
    have HT6 := Lib.hid ht6
    have HQ6 := Lib.hid hq6
    clear ht5 hq5 hs ht6 hq6 HO4 ho5 hr5 HT4 HQ4 y3 hr4 H4
    go_upto_region 4 with fail
    clear d2 f2
    refine wp_region_lit ?_
    refine wpList_load_row rfl 60 (.tmp 3) rfl t ?e1 _ _ _ _ HT6.out Try.underlying60 rfl evSlpSize ?_
    case e1 => rfl
    refine wpList_store_row rfl 60 (.tmp 2) (.tmp 17) rfl q #[.string (S rn), .string (S rp), .string (S rc), .bool false] ?e2 ?e3 _ _ HQ6.out evSlpSize rfl (by simp [Value.oneCell']) ?_
    case e2 => rfl
    case e3 => rfl
    go_wp2_with fail
    refine ret_slp (p := 2) rfl q #[.string (S rn), .string (S rp), .string (S rc), .bool false] rfl rfl (setRow_heap _ _ _ _ _ _ HQ6.out) rfl ⟨rfl, ?_, ?_⟩
    · exact hr6.only (evOnlyRow _ _ _) (by omega) (by omega)
    · exact HO6.out.fresh (evOnlyRow _ _ _) (by omega)
end Go.Proofs.Ytihhgingdgepcaa
