/-
  Aws: the texts StaAwS, StaAw in one.
-/
import Derived.Test.YtojemaaljjibiaaPStaTwo
import Derived.Test.YtojemaaljjibiaaPEvRefs
import Derived.Test.YtojemaaljjibiaaPQWQ
import Derived.Test.YtojemaaljjibiaaPStaThree
open List (setIfInBounds_toArray set_cons_zero set_cons_succ)
namespace Go.Proofs.Ytojemaaljjibiaa
open Go.RowKit
set_option linter.unusedVariables false

def z32 : List UInt8 := List.replicate 32 0
def z16 : List UInt8 := List.replicate 16 0
namespace Sta
def aw1 : Evt := ⟨1, ⟨[97], 0, 0, 0, [⟨[120], z32, z16, false⟩], false, []⟩, 0, 0, [], 0, [], 0⟩
def aw2 : Evt := ⟨4, ⟨[], 0, 0, 0, [], false, []⟩, 0, 0, [116, 97, 120], 0, [], 0⟩
def aw3 : Evt := ⟨2, ⟨[], 0, 0, 0, [], false, []⟩, 0, 0, [], 0, [], 0⟩
theorem ck1 : check zero aw1 = 0 := by decide +kernel
theorem ck2 : check (step zero aw1) aw2 = 0 := by decide +kernel
theorem ck3 : check (step (step zero aw1) aw2) aw3 = 11 := by decide +kernel
theorem ln3 : (step (step (step zero aw1) aw2) aw3).P.length = 1 := by decide +kernel
theorem qn1 : (step zero aw1).Q.length = 0 := by decide +kernel
theorem qn2 : (step (step zero aw1) aw2).Q.length = 0 := by decide +kernel
theorem few1 : EvtFew aw1 := ⟨⟨by decide, fun x hx => (by cases hx), fun x hx => (by rw [List.mem_singleton.1 hx]; decide), fun x hx => (by rw [List.mem_singleton.1 hx]; decide), fun x hx => (by rw [List.mem_singleton.1 hx]; decide)⟩, by decide, by decide⟩
theorem few2 : EvtFew aw2 := ⟨⟨by decide, fun x hx => (by cases hx), fun x hx => (by cases hx), fun x hx => (by cases hx), fun x hx => (by cases hx)⟩, by decide, by decide⟩
theorem few3 : EvtFew aw3 := ⟨⟨by decide, fun x hx => (by cases hx), fun x hx => (by cases hx), fun x hx => (by cases hx), fun x hx => (by cases hx)⟩, by decide, by decide⟩
end Sta
theorem EntIn.bare (W : World) (s : List Nat) : EntIn W s ⟨[], 0, 0, 0, [], false, []⟩ none 0 none 0 := ⟨RowC.nil _ _ _, RowC.nil _ _ _, Nat.le_refl _, Nat.zero_le _, Nat.le_refl _, Nat.zero_le _⟩
theorem EntIn.one {W : World} {s : List Nat} {bs : Nat} (h : Has W bs 51 #[.string ⟨#[120]⟩, .string (S z32), .string (S z16), .bool false]) (hn : bs ∉ s) : EntIn W s Sta.aw1.ent (some ⟨bs, 0, none⟩) 1 none 0 := by
  refine ⟨fun _ => ⟨bs, 0, rfl, h.lt, hn, fun j u hu => ?_⟩, RowC.nil _ _ _, Nat.le_refl _, by decide, Nat.le_refl _, Nat.zero_le _⟩
  rw [Nat.zero_add, h.cell j, ← hu]
  exact List.getElem?_toArray ..
theorem aw1_val (bs : Nat) : Sta.aw1.val (some ⟨bs, 0, none⟩) 1 none 0 = .agg #[.int .i64 1, .string ⟨#[97]⟩, .int .i64 0, .int .i64 0, .int .i64 0, .slice (some ⟨bs, 0, none⟩) 1 1, .bool false, .slice none 0 0, .int .i64 0, .int .i64 0, .string ⟨#[]⟩, .int .i64 0, .string ⟨#[]⟩, .int .i64 0] := rfl
theorem aw2_val : Sta.aw2.val none 0 none 0 = .agg #[.int .i64 4, .string ⟨#[]⟩, .int .i64 0, .int .i64 0, .int .i64 0, .slice none 0 0, .bool false, .slice none 0 0, .int .i64 0, .int .i64 0, .string ⟨#[116, 97, 120]⟩, .int .i64 0, .string ⟨#[]⟩, .int .i64 0] := rfl
theorem aw3_val : Sta.aw3.val none 0 none 0 = .agg #[.int .i64 2, .string ⟨#[]⟩, .int .i64 0, .int .i64 0, .int .i64 0, .slice none 0 0, .bool false, .slice none 0 0, .int .i64 0, .int .i64 0, .string ⟨#[]⟩, .int .i64 0, .string ⟨#[]⟩, .int .i64 0] := rfl
end Go.Proofs.Ytojemaaljjibiaa

namespace Go.Proofs.Ytojemaaljjibiaa
open Go.RowKit
set_option linter.unusedVariables false

abbrev TT (_ : World) : Prop := True
theorem cvz {W : World} {b n : Nat} (h : Has W b 5 (fillc 0 n 0)) : (convert 78 9 (.slice (some ⟨b, 0, none⟩) n n)).run Try.prog W = .ok (.string (S (List.replicate n 0))) W := by
  refine conv_text Try.underlying78 Try.underlying5 Try.underlying9 (List.replicate n 0) (by simp) (fun i _ => ?_)
  rw [Nat.zero_add, h.cell i]
  unfold fillc
  simp
theorem cv32 {W : World} {b : Nat} (h : Has W b 5 (fillc 0 32 0)) : (convert 78 9 (.slice (some ⟨b, 0, none⟩) 32 32)).run Try.prog W = .ok (.string (S z32)) W := cvz h
theorem cv16 {W : World} {b : Nat} (h : Has W b 5 (fillc 0 16 0)) : (convert 78 9 (.slice (some ⟨b, 0, none⟩) 16 16)).run Try.prog W = .ok (.string (S z16)) W := cvz h
set_option maxRecDepth 100000 in
set_option maxHeartbeats 16000000 in
theorem sawake_any (w : World) : Calls Try.prog 17 #[] w fun r w' => r = .returned (.bool true) ∧ Below w.heap.size w w' := by
  have HN := Lib.hid (stNew w [] (by simp))
  have hmk32 : ∀ W, (Instr.makeSlice 78 (.int .i64 32) (.int .i64 32)).run Try.prog W = .ok (.slice (some ⟨W.heap.size, 0, none⟩) 32 32) (W.alloc (.cells (fillc 0 32 0) 5)) := fun W => run_make_bytes 0 32 (by decide) W
  have hmk16 : ∀ W, (Instr.makeSlice 78 (.int .i64 16) (.int .i64 16)).run Try.prog W = .ok (.slice (some ⟨W.heap.size, 0, none⟩) 16 16) (W.alloc (.cells (fillc 0 16 0) 5)) := fun W => run_make_bytes 0 16 (by decide) W
  go_enter Try.func17, Try.ntmps17
  go_wp2_with fail
  refine HN.out.mono ?_
  rintro r w1 ⟨q, s, rfl, h1, hs1, hb1⟩
  have HS := Lib.hid (And.intro h1 (And.intro h1.lt (And.intro hs1 hb1)))
  clear h1 hs1 hb1 HN
  go_upto_region 2 with fail
  go_cut [2] (fun v2 W => ∃ be bs, v2 = .pointer (some ⟨be, 0, none⟩) ∧ Hid (Has W be 33 #[.string ⟨#[97]⟩, .int .i64 0, .int .i64 0, .int .i64 0, .slice (some ⟨bs, 0, none⟩) 1 1, .bool false, .slice none 0 0] ∧ Has W bs 51 #[.string ⟨#[120]⟩, .string (S z32), .string (S z16), .bool false] ∧ w1.heap.size ≤ bs ∧ Below w1.heap.size w1 W))
  case first =>
    refine wp_region_held_drew (S := TT) (by kernel_rfl) trivial (fun hHeld => ?_)
    have HBD : Hid (Below w1.heap.size w1 w1.drew) := Lib.hid (Below.refl _ w1).drew
    generalize w1.drew = wd at hHeld HBD ⊢
    refine takeThree (i := 0) (j := 2) (k := 7) (by kernel_rfl) rfl rfl rfl (by rfl) (by rfl) (by rfl) (fun K hK => ?_) (fun K hK => ?_) (fun K hK => ?_)
    · go_simp
      have hbl : Below wd.heap.size wd (wd.alloc (.cells (fillc 0 32 0) 5)) := (Below.refl _ wd).alloc (Nat.le_refl _) _
      have HB1 := Lib.hid (HBD.out.trans (hbl.mono HBD.out.size))
      have hz := Has.made wd 5 (fillc 0 32 0)
      generalize wd.alloc (.cells (fillc 0 32 0) 5) = W1 at HB1 hz  ⊢
      obtain ⟨ba, hbe⟩ : ∃ b, wd.heap.size = b := ⟨_, rfl⟩
      rw [hbe] at hz ⊢
      have Gba : Hid (w1.heap.size ≤ ba) := Lib.hid (by rw [← hbe]; exact HBD.out.size)
      have Hba := Lib.hid hz
      clear hz hbl hbe
      refine hK.out _ _ (trivial : TT _) (fun hHeld => ?_)
      clear hK K
      try simp only [Act.put, setIfInBounds_toArray, set_cons_zero, set_cons_succ]
      refine takeThree (i := 1) (j := 2) (k := 7) (by kernel_rfl) rfl rfl rfl (by rfl) (by rfl) (by rfl) (fun K hK => ?_) (fun K hK => ?_) (fun K hK => ?_)
      · have hcv := cv32 Hba.out
        go_simp
        clear hcv
        refine hK.out _ _ (trivial : TT _) (fun hHeld => ?_)
        clear hK K
        try simp only [Act.put, setIfInBounds_toArray, set_cons_zero, set_cons_succ]
        refine takeTwo (i := 2) (j := 7) (by kernel_rfl) rfl rfl (by rfl) (by rfl) (fun K hK => ?_) (fun K hK => ?_)
        · go_simp
          have hbl : Below W1.heap.size W1 (W1.alloc (.cells (fillc 0 16 0) 5)) := (Below.refl _ W1).alloc (Nat.le_refl _) _
          have HB3 := Lib.hid (HB1.out.trans (hbl.mono HB1.out.size))
          have hz := Has.made W1 5 (fillc 0 16 0)
          have Hban := Lib.hid (Hba.out.of_alloc (.cells (fillc 0 16 0) 5))
          generalize W1.alloc (.cells (fillc 0 16 0) 5) = W3 at HB3 hz Hban ⊢
          obtain ⟨bb, hbe⟩ : ∃ b, W1.heap.size = b := ⟨_, rfl⟩
          rw [hbe] at hz ⊢
          have Gbb : Hid (w1.heap.size ≤ bb) := Lib.hid (by rw [← hbe]; exact HB1.out.size)
          have Hbb := Lib.hid hz
          clear hz hbl hbe
          refine hK.out _ _ (trivial : TT _) (fun hHeld => ?_)
          clear hK K
          try simp only [Act.put, setIfInBounds_toArray, set_cons_zero, set_cons_succ]
          refine takeTwo (i := 3) (j := 7) (by kernel_rfl) rfl rfl (by rfl) (by rfl) (fun K hK => ?_) (fun K hK => ?_)
          · have hcv := cv16 Hbb.out
            go_simp
            clear hcv
            refine hK.out _ _ (trivial : TT _) (fun hHeld => ?_)
            clear hK K
            try simp only [Act.put, setIfInBounds_toArray, set_cons_zero, set_cons_succ]
            first
            | (refine tkW (i := 4) (v := ?_) rfl rfl ?_ ?_; rotate_left; (focus (intro w hSw; (try dsimp only at hSw); go_simp; first | done | with_reducible rfl)); (simp only [Act.at, setIfInBounds_toArray, set_cons_zero, set_cons_succ]))
            | (refine tkU (i := 4) rfl rfl ?_; (simp only [Act.at, setIfInBounds_toArray, set_cons_zero, set_cons_succ]))
            refine takeTwo (i := 5) (j := 7) (by kernel_rfl) rfl rfl (by rfl) (by rfl) (fun K hK => ?_) (fun K hK => ?_)
            · go_simp
              have hbl : Below W3.heap.size W3 (W3.alloc (.cells #[.string ⟨#[120]⟩, .string (S z32), .string (S z16), .bool false] 51)) := (Below.refl _ W3).alloc (Nat.le_refl _) _
              have HB5 := Lib.hid (HB3.out.trans (hbl.mono HB3.out.size))
              have hz := Has.made W3 51 #[.string ⟨#[120]⟩, .string (S z32), .string (S z16), .bool false]
              have Hbann := Lib.hid (Hban.out.of_alloc (.cells #[.string ⟨#[120]⟩, .string (S z32), .string (S z16), .bool false] 51))
              have Hbbn := Lib.hid (Hbb.out.of_alloc (.cells #[.string ⟨#[120]⟩, .string (S z32), .string (S z16), .bool false] 51))
              generalize W3.alloc (.cells #[.string ⟨#[120]⟩, .string (S z32), .string (S z16), .bool false] 51) = W5 at HB5 hz Hbann Hbbn ⊢
              obtain ⟨bs, hbe⟩ : ∃ b, W3.heap.size = b := ⟨_, rfl⟩
              rw [hbe] at hz ⊢
              have Gbs : Hid (w1.heap.size ≤ bs) := Lib.hid (by rw [← hbe]; exact HB3.out.size)
              have Hbs := Lib.hid hz
              clear hz hbl hbe
              refine hK.out _ _ (trivial : TT _) (fun hHeld => ?_)
              clear hK K
              try simp only [Act.put, setIfInBounds_toArray, set_cons_zero, set_cons_succ]
              first
              | (refine tkW (i := 6) (v := ?_) rfl rfl ?_ ?_; rotate_left; (focus (intro w hSw; (try dsimp only at hSw); go_simp; first | done | with_reducible rfl)); (simp only [Act.at, setIfInBounds_toArray, set_cons_zero, set_cons_succ]))
              | (refine tkU (i := 6) rfl rfl ?_; (simp only [Act.at, setIfInBounds_toArray, set_cons_zero, set_cons_succ]))
              refine takeOne (i := 7) (by kernel_rfl) rfl (by rfl) (fun K hK => ?_)
              go_simp
              have hbl : Below W5.heap.size W5 (W5.alloc (.cells #[.string ⟨#[]⟩, .int .i64 0, .int .i64 0, .int .i64 0, .slice none 0 0, .bool false, .slice none 0 0] 33)) := (Below.refl _ W5).alloc (Nat.le_refl _) _
              have HB6 := Lib.hid (HB5.out.trans (hbl.mono HB5.out.size))
              have hnx : bs ≠ W5.heap.size := fun e => by have := Hbs.out.lt; omega
              have hz := Has.made W5 33 #[.string ⟨#[]⟩, .int .i64 0, .int .i64 0, .int .i64 0, .slice none 0 0, .bool false, .slice none 0 0]
              have Hbannn := Lib.hid (Hbann.out.of_alloc (.cells #[.string ⟨#[]⟩, .int .i64 0, .int .i64 0, .int .i64 0, .slice none 0 0, .bool false, .slice none 0 0] 33))
              have Hbbnn := Lib.hid (Hbbn.out.of_alloc (.cells #[.string ⟨#[]⟩, .int .i64 0, .int .i64 0, .int .i64 0, .slice none 0 0, .bool false, .slice none 0 0] 33))
              have Hbsn := Lib.hid (Hbs.out.of_alloc (.cells #[.string ⟨#[]⟩, .int .i64 0, .int .i64 0, .int .i64 0, .slice none 0 0, .bool false, .slice none 0 0] 33))
              generalize W5.alloc (.cells #[.string ⟨#[]⟩, .int .i64 0, .int .i64 0, .int .i64 0, .slice none 0 0, .bool false, .slice none 0 0] 33) = W6 at HB6 hz Hbannn Hbbnn Hbsn ⊢
              obtain ⟨be, hbe⟩ : ∃ b, W5.heap.size = b := ⟨_, rfl⟩
              rw [hbe] at hz hnx ⊢
              have NBE : Hid (bs ≠ be) := Lib.hid hnx
              clear hnx
              have Gbe : Hid (w1.heap.size ≤ be) := Lib.hid (by rw [← hbe]; exact HB5.out.size)
              have Hbe := Lib.hid hz
              clear hz hbl hbe
              refine hK.out _ _ (trivial : TT _) (fun hHeld => ?_)
              clear hK K
              try simp only [Act.put, setIfInBounds_toArray, set_cons_zero, set_cons_succ]
              refine takeOne (i := 8) (by kernel_rfl) rfl (by rfl) (fun K hK => ?_)
              have z0 : W6.cell? ⟨be, 0, none⟩ = some (.string ⟨#[]⟩) := Hbe.out.cell 0
              have f0 : W6.frozen? ⟨be, 0, none⟩ = false := Hbe.out.free 0
              have z1 : W6.cell? ⟨be, 1, none⟩ = some (.int .i64 0) := Hbe.out.cell 1
              have f1 : W6.frozen? ⟨be, 1, none⟩ = false := Hbe.out.free 1
              have z2 : W6.cell? ⟨be, 2, none⟩ = some (.int .i64 0) := Hbe.out.cell 2
              have f2 : W6.frozen? ⟨be, 2, none⟩ = false := Hbe.out.free 2
              have z3 : W6.cell? ⟨be, 3, none⟩ = some (.int .i64 0) := Hbe.out.cell 3
              have f3 : W6.frozen? ⟨be, 3, none⟩ = false := Hbe.out.free 3
              have z4 : W6.cell? ⟨be, 4, none⟩ = some (.slice none 0 0) := Hbe.out.cell 4
              have f4 : W6.frozen? ⟨be, 4, none⟩ = false := Hbe.out.free 4
              have z5 : W6.cell? ⟨be, 5, none⟩ = some (.bool false) := Hbe.out.cell 5
              have f5 : W6.frozen? ⟨be, 5, none⟩ = false := Hbe.out.free 5
              have z6 : W6.cell? ⟨be, 6, none⟩ = some (.slice none 0 0) := Hbe.out.cell 6
              have f6 : W6.frozen? ⟨be, 6, none⟩ = false := Hbe.out.free 6
              have hne : bs ≠ be := NBE.out
              go_simp
              have hset := set7 Hbe.out (.string ⟨#[97]⟩) (.int .i64 0) (.int .i64 0) (.int .i64 0) (.slice (some ⟨bs, 0, none⟩) 1 1) (.bool false) (.slice none 0 0)
              have hon := only7 W6 be (.string ⟨#[97]⟩) (.int .i64 0) (.int .i64 0) (.int .i64 0) (.slice (some ⟨bs, 0, none⟩) 1 1) (.bool false) (.slice none 0 0)
              have Hbsnn := Lib.hid ((Mv.of_only hon (s := [be]) (by simp)).has Hbsn.out (by rw [List.mem_singleton]; exact hne))
              have HB7 := Lib.hid (hon.below HB6.out HB6.out.size Gbe.out)
              generalize (((((((W6.setCell ⟨be, 0, none⟩ (.string ⟨#[97]⟩)).setCell ⟨be, 1, none⟩ (.int .i64 0)).setCell ⟨be, 2, none⟩ (.int .i64 0)).setCell ⟨be, 3, none⟩ (.int .i64 0)).setCell ⟨be, 4, none⟩ (.slice (some ⟨bs, 0, none⟩) 1 1)).setCell ⟨be, 5, none⟩ (.bool false)).setCell ⟨be, 6, none⟩ (.slice none 0 0)) = W7 at hset hon Hbsnn HB7 ⊢
              have HSET := Lib.hid hset
              clear hset hon hne z0 z1 z2 z3 z4 z5 z6 f0 f1 f2 f3 f4 f5 f6
              refine hK.out _ _ (trivial : TT _) (fun hHeld => ?_)
              clear hK K
              try simp only [Act.put, setIfInBounds_toArray, set_cons_zero, set_cons_succ]
              refine wpAnyH_done (by kernel_rfl) ?_ _
              clear hHeld
              go_wp2_with fail
              go_meet
              exact ⟨be, bs, rfl, Lib.hid ⟨HSET.out, Hbsnn.out, Gbs.out, HB7.out⟩⟩
            · go_simp
              have hbl : Below W3.heap.size W3 (W3.alloc (.cells #[.string ⟨#[]⟩, .int .i64 0, .int .i64 0, .int .i64 0, .slice none 0 0, .bool false, .slice none 0 0] 33)) := (Below.refl _ W3).alloc (Nat.le_refl _) _
              have HB8 := Lib.hid (HB3.out.trans (hbl.mono HB3.out.size))
              have hz := Has.made W3 33 #[.string ⟨#[]⟩, .int .i64 0, .int .i64 0, .int .i64 0, .slice none 0 0, .bool false, .slice none 0 0]
              have Hbann := Lib.hid (Hban.out.of_alloc (.cells #[.string ⟨#[]⟩, .int .i64 0, .int .i64 0, .int .i64 0, .slice none 0 0, .bool false, .slice none 0 0] 33))
              have Hbbn := Lib.hid (Hbb.out.of_alloc (.cells #[.string ⟨#[]⟩, .int .i64 0, .int .i64 0, .int .i64 0, .slice none 0 0, .bool false, .slice none 0 0] 33))
              generalize W3.alloc (.cells #[.string ⟨#[]⟩, .int .i64 0, .int .i64 0, .int .i64 0, .slice none 0 0, .bool false, .slice none 0 0] 33) = W8 at HB8 hz Hbann Hbbn ⊢
              obtain ⟨be, hbe⟩ : ∃ b, W3.heap.size = b := ⟨_, rfl⟩
              rw [hbe] at hz ⊢
              have Gbe : Hid (w1.heap.size ≤ be) := Lib.hid (by rw [← hbe]; exact HB3.out.size)
              have Hbe := Lib.hid hz
              clear hz hbl hbe
              refine hK.out _ _ (trivial : TT _) (fun hHeld => ?_)
              clear hK K
              try simp only [Act.put, setIfInBounds_toArray, set_cons_zero, set_cons_succ]
              refine takeOne (i := 5) (by kernel_rfl) rfl (by rfl) (fun K hK => ?_)
              go_simp
              have hbl : Below W8.heap.size W8 (W8.alloc (.cells #[.string ⟨#[120]⟩, .string (S z32), .string (S z16), .bool false] 51)) := (Below.refl _ W8).alloc (Nat.le_refl _) _
              have HB9 := Lib.hid (HB8.out.trans (hbl.mono HB8.out.size))
              have hnx : be ≠ W8.heap.size := fun e => by have := Hbe.out.lt; omega
              have hz := Has.made W8 51 #[.string ⟨#[120]⟩, .string (S z32), .string (S z16), .bool false]
              have Hbannn := Lib.hid (Hbann.out.of_alloc (.cells #[.string ⟨#[120]⟩, .string (S z32), .string (S z16), .bool false] 51))
              have Hbbnn := Lib.hid (Hbbn.out.of_alloc (.cells #[.string ⟨#[120]⟩, .string (S z32), .string (S z16), .bool false] 51))
              have Hben := Lib.hid (Hbe.out.of_alloc (.cells #[.string ⟨#[120]⟩, .string (S z32), .string (S z16), .bool false] 51))
              generalize W8.alloc (.cells #[.string ⟨#[120]⟩, .string (S z32), .string (S z16), .bool false] 51) = W9 at HB9 hz Hbannn Hbbnn Hben ⊢
              obtain ⟨bs, hbe⟩ : ∃ b, W8.heap.size = b := ⟨_, rfl⟩
              rw [hbe] at hz hnx ⊢
              have NBE : Hid (bs ≠ be) := Lib.hid (fun e => hnx e.symm)
              clear hnx
              have Gbs : Hid (w1.heap.size ≤ bs) := Lib.hid (by rw [← hbe]; exact HB8.out.size)
              have Hbs := Lib.hid hz
              clear hz hbl hbe
              refine hK.out _ _ (trivial : TT _) (fun hHeld => ?_)
              clear hK K
              try simp only [Act.put, setIfInBounds_toArray, set_cons_zero, set_cons_succ]
              first
              | (refine tkW (i := 6) (v := ?_) rfl rfl ?_ ?_; rotate_left; (focus (intro w hSw; (try dsimp only at hSw); go_simp; first | done | with_reducible rfl)); (simp only [Act.at, setIfInBounds_toArray, set_cons_zero, set_cons_succ]))
              | (refine tkU (i := 6) rfl rfl ?_; (simp only [Act.at, setIfInBounds_toArray, set_cons_zero, set_cons_succ]))
              refine takeOne (i := 8) (by kernel_rfl) rfl (by rfl) (fun K hK => ?_)
              have z0 : W9.cell? ⟨be, 0, none⟩ = some (.string ⟨#[]⟩) := Hben.out.cell 0
              have f0 : W9.frozen? ⟨be, 0, none⟩ = false := Hben.out.free 0
              have z1 : W9.cell? ⟨be, 1, none⟩ = some (.int .i64 0) := Hben.out.cell 1
              have f1 : W9.frozen? ⟨be, 1, none⟩ = false := Hben.out.free 1
              have z2 : W9.cell? ⟨be, 2, none⟩ = some (.int .i64 0) := Hben.out.cell 2
              have f2 : W9.frozen? ⟨be, 2, none⟩ = false := Hben.out.free 2
              have z3 : W9.cell? ⟨be, 3, none⟩ = some (.int .i64 0) := Hben.out.cell 3
              have f3 : W9.frozen? ⟨be, 3, none⟩ = false := Hben.out.free 3
              have z4 : W9.cell? ⟨be, 4, none⟩ = some (.slice none 0 0) := Hben.out.cell 4
              have f4 : W9.frozen? ⟨be, 4, none⟩ = false := Hben.out.free 4
              have z5 : W9.cell? ⟨be, 5, none⟩ = some (.bool false) := Hben.out.cell 5
              have f5 : W9.frozen? ⟨be, 5, none⟩ = false := Hben.out.free 5
              have z6 : W9.cell? ⟨be, 6, none⟩ = some (.slice none 0 0) := Hben.out.cell 6
              have f6 : W9.frozen? ⟨be, 6, none⟩ = false := Hben.out.free 6
              have hne : bs ≠ be := NBE.out
              go_simp
              have hset := set7 Hben.out (.string ⟨#[97]⟩) (.int .i64 0) (.int .i64 0) (.int .i64 0) (.slice (some ⟨bs, 0, none⟩) 1 1) (.bool false) (.slice none 0 0)
              have hon := only7 W9 be (.string ⟨#[97]⟩) (.int .i64 0) (.int .i64 0) (.int .i64 0) (.slice (some ⟨bs, 0, none⟩) 1 1) (.bool false) (.slice none 0 0)
              have Hbsn := Lib.hid ((Mv.of_only hon (s := [be]) (by simp)).has Hbs.out (by rw [List.mem_singleton]; exact hne))
              have HB10 := Lib.hid (hon.below HB9.out HB9.out.size Gbe.out)
              generalize (((((((W9.setCell ⟨be, 0, none⟩ (.string ⟨#[97]⟩)).setCell ⟨be, 1, none⟩ (.int .i64 0)).setCell ⟨be, 2, none⟩ (.int .i64 0)).setCell ⟨be, 3, none⟩ (.int .i64 0)).setCell ⟨be, 4, none⟩ (.slice (some ⟨bs, 0, none⟩) 1 1)).setCell ⟨be, 5, none⟩ (.bool false)).setCell ⟨be, 6, none⟩ (.slice none 0 0)) = W10 at hset hon Hbsn HB10 ⊢
              have HSET := Lib.hid hset
              clear hset hon hne z0 z1 z2 z3 z4 z5 z6 f0 f1 f2 f3 f4 f5 f6
              refine hK.out _ _ (trivial : TT _) (fun hHeld => ?_)
              clear hK K
              try simp only [Act.put, setIfInBounds_toArray, set_cons_zero, set_cons_succ]
              refine wpAnyH_done (by kernel_rfl) ?_ _
              clear hHeld
              go_wp2_with fail
              go_meet
              exact ⟨be, bs, rfl, Lib.hid ⟨HSET.out, Hbsn.out, Gbs.out, HB10.out⟩⟩
          · go_simp
            have hbl : Below W3.heap.size W3 (W3.alloc (.cells #[.string ⟨#[]⟩, .int .i64 0, .int .i64 0, .int .i64 0, .slice none 0 0, .bool false, .slice none 0 0] 33)) := (Below.refl _ W3).alloc (Nat.le_refl _) _
            have HB11 := Lib.hid (HB3.out.trans (hbl.mono HB3.out.size))
            have hz := Has.made W3 33 #[.string ⟨#[]⟩, .int .i64 0, .int .i64 0, .int .i64 0, .slice none 0 0, .bool false, .slice none 0 0]
            have Hbann := Lib.hid (Hban.out.of_alloc (.cells #[.string ⟨#[]⟩, .int .i64 0, .int .i64 0, .int .i64 0, .slice none 0 0, .bool false, .slice none 0 0] 33))
            have Hbbn := Lib.hid (Hbb.out.of_alloc (.cells #[.string ⟨#[]⟩, .int .i64 0, .int .i64 0, .int .i64 0, .slice none 0 0, .bool false, .slice none 0 0] 33))
            generalize W3.alloc (.cells #[.string ⟨#[]⟩, .int .i64 0, .int .i64 0, .int .i64 0, .slice none 0 0, .bool false, .slice none 0 0] 33) = W11 at HB11 hz Hbann Hbbn ⊢
            obtain ⟨be, hbe⟩ : ∃ b, W3.heap.size = b := ⟨_, rfl⟩
            rw [hbe] at hz ⊢
            have Gbe : Hid (w1.heap.size ≤ be) := Lib.hid (by rw [← hbe]; exact HB3.out.size)
            have Hbe := Lib.hid hz
            clear hz hbl hbe
            refine hK.out _ _ (trivial : TT _) (fun hHeld => ?_)
            clear hK K
            try simp only [Act.put, setIfInBounds_toArray, set_cons_zero, set_cons_succ]
            refine takeOne (i := 3) (by kernel_rfl) rfl (by rfl) (fun K hK => ?_)
            have hcv := cv16 Hbbn.out
            go_simp
            clear hcv
            refine hK.out _ _ (trivial : TT _) (fun hHeld => ?_)
            clear hK K
            try simp only [Act.put, setIfInBounds_toArray, set_cons_zero, set_cons_succ]
            first
            | (refine tkW (i := 4) (v := ?_) rfl rfl ?_ ?_; rotate_left; (focus (intro w hSw; (try dsimp only at hSw); go_simp; first | done | with_reducible rfl)); (simp only [Act.at, setIfInBounds_toArray, set_cons_zero, set_cons_succ]))
            | (refine tkU (i := 4) rfl rfl ?_; (simp only [Act.at, setIfInBounds_toArray, set_cons_zero, set_cons_succ]))
            refine takeOne (i := 5) (by kernel_rfl) rfl (by rfl) (fun K hK => ?_)
            go_simp
            have hbl : Below W11.heap.size W11 (W11.alloc (.cells #[.string ⟨#[120]⟩, .string (S z32), .string (S z16), .bool false] 51)) := (Below.refl _ W11).alloc (Nat.le_refl _) _
            have HB13 := Lib.hid (HB11.out.trans (hbl.mono HB11.out.size))
            have hnx : be ≠ W11.heap.size := fun e => by have := Hbe.out.lt; omega
            have hz := Has.made W11 51 #[.string ⟨#[120]⟩, .string (S z32), .string (S z16), .bool false]
            have Hbannn := Lib.hid (Hbann.out.of_alloc (.cells #[.string ⟨#[120]⟩, .string (S z32), .string (S z16), .bool false] 51))
            have Hbbnn := Lib.hid (Hbbn.out.of_alloc (.cells #[.string ⟨#[120]⟩, .string (S z32), .string (S z16), .bool false] 51))
            have Hben := Lib.hid (Hbe.out.of_alloc (.cells #[.string ⟨#[120]⟩, .string (S z32), .string (S z16), .bool false] 51))
            generalize W11.alloc (.cells #[.string ⟨#[120]⟩, .string (S z32), .string (S z16), .bool false] 51) = W13 at HB13 hz Hbannn Hbbnn Hben ⊢
            obtain ⟨bs, hbe⟩ : ∃ b, W11.heap.size = b := ⟨_, rfl⟩
            rw [hbe] at hz hnx ⊢
            have NBE : Hid (bs ≠ be) := Lib.hid (fun e => hnx e.symm)
            clear hnx
            have Gbs : Hid (w1.heap.size ≤ bs) := Lib.hid (by rw [← hbe]; exact HB11.out.size)
            have Hbs := Lib.hid hz
            clear hz hbl hbe
            refine hK.out _ _ (trivial : TT _) (fun hHeld => ?_)
            clear hK K
            try simp only [Act.put, setIfInBounds_toArray, set_cons_zero, set_cons_succ]
            first
            | (refine tkW (i := 6) (v := ?_) rfl rfl ?_ ?_; rotate_left; (focus (intro w hSw; (try dsimp only at hSw); go_simp; first | done | with_reducible rfl)); (simp only [Act.at, setIfInBounds_toArray, set_cons_zero, set_cons_succ]))
            | (refine tkU (i := 6) rfl rfl ?_; (simp only [Act.at, setIfInBounds_toArray, set_cons_zero, set_cons_succ]))
            refine takeOne (i := 8) (by kernel_rfl) rfl (by rfl) (fun K hK => ?_)
            have z0 : W13.cell? ⟨be, 0, none⟩ = some (.string ⟨#[]⟩) := Hben.out.cell 0
            have f0 : W13.frozen? ⟨be, 0, none⟩ = false := Hben.out.free 0
            have z1 : W13.cell? ⟨be, 1, none⟩ = some (.int .i64 0) := Hben.out.cell 1
            have f1 : W13.frozen? ⟨be, 1, none⟩ = false := Hben.out.free 1
            have z2 : W13.cell? ⟨be, 2, none⟩ = some (.int .i64 0) := Hben.out.cell 2
            have f2 : W13.frozen? ⟨be, 2, none⟩ = false := Hben.out.free 2
            have z3 : W13.cell? ⟨be, 3, none⟩ = some (.int .i64 0) := Hben.out.cell 3
            have f3 : W13.frozen? ⟨be, 3, none⟩ = false := Hben.out.free 3
            have z4 : W13.cell? ⟨be, 4, none⟩ = some (.slice none 0 0) := Hben.out.cell 4
            have f4 : W13.frozen? ⟨be, 4, none⟩ = false := Hben.out.free 4
            have z5 : W13.cell? ⟨be, 5, none⟩ = some (.bool false) := Hben.out.cell 5
            have f5 : W13.frozen? ⟨be, 5, none⟩ = false := Hben.out.free 5
            have z6 : W13.cell? ⟨be, 6, none⟩ = some (.slice none 0 0) := Hben.out.cell 6
            have f6 : W13.frozen? ⟨be, 6, none⟩ = false := Hben.out.free 6
            have hne : bs ≠ be := NBE.out
            go_simp
            have hset := set7 Hben.out (.string ⟨#[97]⟩) (.int .i64 0) (.int .i64 0) (.int .i64 0) (.slice (some ⟨bs, 0, none⟩) 1 1) (.bool false) (.slice none 0 0)
            have hon := only7 W13 be (.string ⟨#[97]⟩) (.int .i64 0) (.int .i64 0) (.int .i64 0) (.slice (some ⟨bs, 0, none⟩) 1 1) (.bool false) (.slice none 0 0)
            have Hbsn := Lib.hid ((Mv.of_only hon (s := [be]) (by simp)).has Hbs.out (by rw [List.mem_singleton]; exact hne))
            have HB14 := Lib.hid (hon.below HB13.out HB13.out.size Gbe.out)
            generalize (((((((W13.setCell ⟨be, 0, none⟩ (.string ⟨#[97]⟩)).setCell ⟨be, 1, none⟩ (.int .i64 0)).setCell ⟨be, 2, none⟩ (.int .i64 0)).setCell ⟨be, 3, none⟩ (.int .i64 0)).setCell ⟨be, 4, none⟩ (.slice (some ⟨bs, 0, none⟩) 1 1)).setCell ⟨be, 5, none⟩ (.bool false)).setCell ⟨be, 6, none⟩ (.slice none 0 0)) = W14 at hset hon Hbsn HB14 ⊢
            have HSET := Lib.hid hset
            clear hset hon hne z0 z1 z2 z3 z4 z5 z6 f0 f1 f2 f3 f4 f5 f6
            refine hK.out _ _ (trivial : TT _) (fun hHeld => ?_)
            clear hK K
            try simp only [Act.put, setIfInBounds_toArray, set_cons_zero, set_cons_succ]
            refine wpAnyH_done (by kernel_rfl) ?_ _
            clear hHeld
            go_wp2_with fail
            go_meet
            exact ⟨be, bs, rfl, Lib.hid ⟨HSET.out, Hbsn.out, Gbs.out, HB14.out⟩⟩
        · go_simp
          have hbl : Below W1.heap.size W1 (W1.alloc (.cells #[.string ⟨#[]⟩, .int .i64 0, .int .i64 0, .int .i64 0, .slice none 0 0, .bool false, .slice none 0 0] 33)) := (Below.refl _ W1).alloc (Nat.le_refl _) _
          have HB15 := Lib.hid (HB1.out.trans (hbl.mono HB1.out.size))
          have hz := Has.made W1 33 #[.string ⟨#[]⟩, .int .i64 0, .int .i64 0, .int .i64 0, .slice none 0 0, .bool false, .slice none 0 0]
          have Hban := Lib.hid (Hba.out.of_alloc (.cells #[.string ⟨#[]⟩, .int .i64 0, .int .i64 0, .int .i64 0, .slice none 0 0, .bool false, .slice none 0 0] 33))
          generalize W1.alloc (.cells #[.string ⟨#[]⟩, .int .i64 0, .int .i64 0, .int .i64 0, .slice none 0 0, .bool false, .slice none 0 0] 33) = W15 at HB15 hz Hban ⊢
          obtain ⟨be, hbe⟩ : ∃ b, W1.heap.size = b := ⟨_, rfl⟩
          rw [hbe] at hz ⊢
          have Gbe : Hid (w1.heap.size ≤ be) := Lib.hid (by rw [← hbe]; exact HB1.out.size)
          have Hbe := Lib.hid hz
          clear hz hbl hbe
          refine hK.out _ _ (trivial : TT _) (fun hHeld => ?_)
          clear hK K
          try simp only [Act.put, setIfInBounds_toArray, set_cons_zero, set_cons_succ]
          refine takeOne (i := 2) (by kernel_rfl) rfl (by rfl) (fun K hK => ?_)
          go_simp
          have hbl : Below W15.heap.size W15 (W15.alloc (.cells (fillc 0 16 0) 5)) := (Below.refl _ W15).alloc (Nat.le_refl _) _
          have HB16 := Lib.hid (HB15.out.trans (hbl.mono HB15.out.size))
          have hz := Has.made W15 5 (fillc 0 16 0)
          have Hbann := Lib.hid (Hban.out.of_alloc (.cells (fillc 0 16 0) 5))
          have Hben := Lib.hid (Hbe.out.of_alloc (.cells (fillc 0 16 0) 5))
          generalize W15.alloc (.cells (fillc 0 16 0) 5) = W16 at HB16 hz Hbann Hben ⊢
          obtain ⟨bb, hbe⟩ : ∃ b, W15.heap.size = b := ⟨_, rfl⟩
          rw [hbe] at hz ⊢
          have Gbb : Hid (w1.heap.size ≤ bb) := Lib.hid (by rw [← hbe]; exact HB15.out.size)
          have Hbb := Lib.hid hz
          clear hz hbl hbe
          refine hK.out _ _ (trivial : TT _) (fun hHeld => ?_)
          clear hK K
          try simp only [Act.put, setIfInBounds_toArray, set_cons_zero, set_cons_succ]
          refine takeOne (i := 3) (by kernel_rfl) rfl (by rfl) (fun K hK => ?_)
          have hcv := cv16 Hbb.out
          go_simp
          clear hcv
          refine hK.out _ _ (trivial : TT _) (fun hHeld => ?_)
          clear hK K
          try simp only [Act.put, setIfInBounds_toArray, set_cons_zero, set_cons_succ]
          first
          | (refine tkW (i := 4) (v := ?_) rfl rfl ?_ ?_; rotate_left; (focus (intro w hSw; (try dsimp only at hSw); go_simp; first | done | with_reducible rfl)); (simp only [Act.at, setIfInBounds_toArray, set_cons_zero, set_cons_succ]))
          | (refine tkU (i := 4) rfl rfl ?_; (simp only [Act.at, setIfInBounds_toArray, set_cons_zero, set_cons_succ]))
          refine takeOne (i := 5) (by kernel_rfl) rfl (by rfl) (fun K hK => ?_)
          go_simp
          have hbl : Below W16.heap.size W16 (W16.alloc (.cells #[.string ⟨#[120]⟩, .string (S z32), .string (S z16), .bool false] 51)) := (Below.refl _ W16).alloc (Nat.le_refl _) _
          have HB18 := Lib.hid (HB16.out.trans (hbl.mono HB16.out.size))
          have hnx : be ≠ W16.heap.size := fun e => by have := Hben.out.lt; omega
          have hz := Has.made W16 51 #[.string ⟨#[120]⟩, .string (S z32), .string (S z16), .bool false]
          have Hbannn := Lib.hid (Hbann.out.of_alloc (.cells #[.string ⟨#[120]⟩, .string (S z32), .string (S z16), .bool false] 51))
          have Hbenn := Lib.hid (Hben.out.of_alloc (.cells #[.string ⟨#[120]⟩, .string (S z32), .string (S z16), .bool false] 51))
          have Hbbn := Lib.hid (Hbb.out.of_alloc (.cells #[.string ⟨#[120]⟩, .string (S z32), .string (S z16), .bool false] 51))
          generalize W16.alloc (.cells #[.string ⟨#[120]⟩, .string (S z32), .string (S z16), .bool false] 51) = W18 at HB18 hz Hbannn Hbenn Hbbn ⊢
          obtain ⟨bs, hbe⟩ : ∃ b, W16.heap.size = b := ⟨_, rfl⟩
          rw [hbe] at hz hnx ⊢
          have NBE : Hid (bs ≠ be) := Lib.hid (fun e => hnx e.symm)
          clear hnx
          have Gbs : Hid (w1.heap.size ≤ bs) := Lib.hid (by rw [← hbe]; exact HB16.out.size)
          have Hbs := Lib.hid hz
          clear hz hbl hbe
          refine hK.out _ _ (trivial : TT _) (fun hHeld => ?_)
          clear hK K
          try simp only [Act.put, setIfInBounds_toArray, set_cons_zero, set_cons_succ]
          first
          | (refine tkW (i := 6) (v := ?_) rfl rfl ?_ ?_; rotate_left; (focus (intro w hSw; (try dsimp only at hSw); go_simp; first | done | with_reducible rfl)); (simp only [Act.at, setIfInBounds_toArray, set_cons_zero, set_cons_succ]))
          | (refine tkU (i := 6) rfl rfl ?_; (simp only [Act.at, setIfInBounds_toArray, set_cons_zero, set_cons_succ]))
          refine takeOne (i := 8) (by kernel_rfl) rfl (by rfl) (fun K hK => ?_)
          have z0 : W18.cell? ⟨be, 0, none⟩ = some (.string ⟨#[]⟩) := Hbenn.out.cell 0
          have f0 : W18.frozen? ⟨be, 0, none⟩ = false := Hbenn.out.free 0
          have z1 : W18.cell? ⟨be, 1, none⟩ = some (.int .i64 0) := Hbenn.out.cell 1
          have f1 : W18.frozen? ⟨be, 1, none⟩ = false := Hbenn.out.free 1
          have z2 : W18.cell? ⟨be, 2, none⟩ = some (.int .i64 0) := Hbenn.out.cell 2
          have f2 : W18.frozen? ⟨be, 2, none⟩ = false := Hbenn.out.free 2
          have z3 : W18.cell? ⟨be, 3, none⟩ = some (.int .i64 0) := Hbenn.out.cell 3
          have f3 : W18.frozen? ⟨be, 3, none⟩ = false := Hbenn.out.free 3
          have z4 : W18.cell? ⟨be, 4, none⟩ = some (.slice none 0 0) := Hbenn.out.cell 4
          have f4 : W18.frozen? ⟨be, 4, none⟩ = false := Hbenn.out.free 4
          have z5 : W18.cell? ⟨be, 5, none⟩ = some (.bool false) := Hbenn.out.cell 5
          have f5 : W18.frozen? ⟨be, 5, none⟩ = false := Hbenn.out.free 5
          have z6 : W18.cell? ⟨be, 6, none⟩ = some (.slice none 0 0) := Hbenn.out.cell 6
          have f6 : W18.frozen? ⟨be, 6, none⟩ = false := Hbenn.out.free 6
          have hne : bs ≠ be := NBE.out
          go_simp
          have hset := set7 Hbenn.out (.string ⟨#[97]⟩) (.int .i64 0) (.int .i64 0) (.int .i64 0) (.slice (some ⟨bs, 0, none⟩) 1 1) (.bool false) (.slice none 0 0)
          have hon := only7 W18 be (.string ⟨#[97]⟩) (.int .i64 0) (.int .i64 0) (.int .i64 0) (.slice (some ⟨bs, 0, none⟩) 1 1) (.bool false) (.slice none 0 0)
          have Hbsn := Lib.hid ((Mv.of_only hon (s := [be]) (by simp)).has Hbs.out (by rw [List.mem_singleton]; exact hne))
          have HB19 := Lib.hid (hon.below HB18.out HB18.out.size Gbe.out)
          generalize (((((((W18.setCell ⟨be, 0, none⟩ (.string ⟨#[97]⟩)).setCell ⟨be, 1, none⟩ (.int .i64 0)).setCell ⟨be, 2, none⟩ (.int .i64 0)).setCell ⟨be, 3, none⟩ (.int .i64 0)).setCell ⟨be, 4, none⟩ (.slice (some ⟨bs, 0, none⟩) 1 1)).setCell ⟨be, 5, none⟩ (.bool false)).setCell ⟨be, 6, none⟩ (.slice none 0 0)) = W19 at hset hon Hbsn HB19 ⊢
          have HSET := Lib.hid hset
          clear hset hon hne z0 z1 z2 z3 z4 z5 z6 f0 f1 f2 f3 f4 f5 f6
          refine hK.out _ _ (trivial : TT _) (fun hHeld => ?_)
          clear hK K
          try simp only [Act.put, setIfInBounds_toArray, set_cons_zero, set_cons_succ]
          refine wpAnyH_done (by kernel_rfl) ?_ _
          clear hHeld
          go_wp2_with fail
          go_meet
          exact ⟨be, bs, rfl, Lib.hid ⟨HSET.out, Hbsn.out, Gbs.out, HB19.out⟩⟩
      · go_simp
        have hbl : Below W1.heap.size W1 (W1.alloc (.cells (fillc 0 16 0) 5)) := (Below.refl _ W1).alloc (Nat.le_refl _) _
        have HB20 := Lib.hid (HB1.out.trans (hbl.mono HB1.out.size))
        have hz := Has.made W1 5 (fillc 0 16 0)
        have Hban := Lib.hid (Hba.out.of_alloc (.cells (fillc 0 16 0) 5))
        generalize W1.alloc (.cells (fillc 0 16 0) 5) = W20 at HB20 hz Hban ⊢
        obtain ⟨bb, hbe⟩ : ∃ b, W1.heap.size = b := ⟨_, rfl⟩
        rw [hbe] at hz ⊢
        have Gbb : Hid (w1.heap.size ≤ bb) := Lib.hid (by rw [← hbe]; exact HB1.out.size)
        have Hbb := Lib.hid hz
        clear hz hbl hbe
        refine hK.out _ _ (trivial : TT _) (fun hHeld => ?_)
        clear hK K
        try simp only [Act.put, setIfInBounds_toArray, set_cons_zero, set_cons_succ]
        refine takeThree (i := 1) (j := 3) (k := 7) (by kernel_rfl) rfl rfl rfl (by rfl) (by rfl) (by rfl) (fun K hK => ?_) (fun K hK => ?_) (fun K hK => ?_)
        · have hcv := cv32 Hban.out
          go_simp
          clear hcv
          refine hK.out _ _ (trivial : TT _) (fun hHeld => ?_)
          clear hK K
          try simp only [Act.put, setIfInBounds_toArray, set_cons_zero, set_cons_succ]
          refine takeTwo (i := 3) (j := 7) (by kernel_rfl) rfl rfl (by rfl) (by rfl) (fun K hK => ?_) (fun K hK => ?_)
          · have hcv := cv16 Hbb.out
            go_simp
            clear hcv
            refine hK.out _ _ (trivial : TT _) (fun hHeld => ?_)
            clear hK K
            try simp only [Act.put, setIfInBounds_toArray, set_cons_zero, set_cons_succ]
            first
            | (refine tkW (i := 4) (v := ?_) rfl rfl ?_ ?_; rotate_left; (focus (intro w hSw; (try dsimp only at hSw); go_simp; first | done | with_reducible rfl)); (simp only [Act.at, setIfInBounds_toArray, set_cons_zero, set_cons_succ]))
            | (refine tkU (i := 4) rfl rfl ?_; (simp only [Act.at, setIfInBounds_toArray, set_cons_zero, set_cons_succ]))
            refine takeTwo (i := 5) (j := 7) (by kernel_rfl) rfl rfl (by rfl) (by rfl) (fun K hK => ?_) (fun K hK => ?_)
            · go_simp
              have hbl : Below W20.heap.size W20 (W20.alloc (.cells #[.string ⟨#[120]⟩, .string (S z32), .string (S z16), .bool false] 51)) := (Below.refl _ W20).alloc (Nat.le_refl _) _
              have HB23 := Lib.hid (HB20.out.trans (hbl.mono HB20.out.size))
              have hz := Has.made W20 51 #[.string ⟨#[120]⟩, .string (S z32), .string (S z16), .bool false]
              have Hbann := Lib.hid (Hban.out.of_alloc (.cells #[.string ⟨#[120]⟩, .string (S z32), .string (S z16), .bool false] 51))
              have Hbbn := Lib.hid (Hbb.out.of_alloc (.cells #[.string ⟨#[120]⟩, .string (S z32), .string (S z16), .bool false] 51))
              generalize W20.alloc (.cells #[.string ⟨#[120]⟩, .string (S z32), .string (S z16), .bool false] 51) = W23 at HB23 hz Hbann Hbbn ⊢
              obtain ⟨bs, hbe⟩ : ∃ b, W20.heap.size = b := ⟨_, rfl⟩
              rw [hbe] at hz ⊢
              have Gbs : Hid (w1.heap.size ≤ bs) := Lib.hid (by rw [← hbe]; exact HB20.out.size)
              have Hbs := Lib.hid hz
              clear hz hbl hbe
              refine hK.out _ _ (trivial : TT _) (fun hHeld => ?_)
              clear hK K
              try simp only [Act.put, setIfInBounds_toArray, set_cons_zero, set_cons_succ]
              first
              | (refine tkW (i := 6) (v := ?_) rfl rfl ?_ ?_; rotate_left; (focus (intro w hSw; (try dsimp only at hSw); go_simp; first | done | with_reducible rfl)); (simp only [Act.at, setIfInBounds_toArray, set_cons_zero, set_cons_succ]))
              | (refine tkU (i := 6) rfl rfl ?_; (simp only [Act.at, setIfInBounds_toArray, set_cons_zero, set_cons_succ]))
              refine takeOne (i := 7) (by kernel_rfl) rfl (by rfl) (fun K hK => ?_)
              go_simp
              have hbl : Below W23.heap.size W23 (W23.alloc (.cells #[.string ⟨#[]⟩, .int .i64 0, .int .i64 0, .int .i64 0, .slice none 0 0, .bool false, .slice none 0 0] 33)) := (Below.refl _ W23).alloc (Nat.le_refl _) _
              have HB24 := Lib.hid (HB23.out.trans (hbl.mono HB23.out.size))
              have hnx : bs ≠ W23.heap.size := fun e => by have := Hbs.out.lt; omega
              have hz := Has.made W23 33 #[.string ⟨#[]⟩, .int .i64 0, .int .i64 0, .int .i64 0, .slice none 0 0, .bool false, .slice none 0 0]
              have Hbannn := Lib.hid (Hbann.out.of_alloc (.cells #[.string ⟨#[]⟩, .int .i64 0, .int .i64 0, .int .i64 0, .slice none 0 0, .bool false, .slice none 0 0] 33))
              have Hbbnn := Lib.hid (Hbbn.out.of_alloc (.cells #[.string ⟨#[]⟩, .int .i64 0, .int .i64 0, .int .i64 0, .slice none 0 0, .bool false, .slice none 0 0] 33))
              have Hbsn := Lib.hid (Hbs.out.of_alloc (.cells #[.string ⟨#[]⟩, .int .i64 0, .int .i64 0, .int .i64 0, .slice none 0 0, .bool false, .slice none 0 0] 33))
              generalize W23.alloc (.cells #[.string ⟨#[]⟩, .int .i64 0, .int .i64 0, .int .i64 0, .slice none 0 0, .bool false, .slice none 0 0] 33) = W24 at HB24 hz Hbannn Hbbnn Hbsn ⊢
              obtain ⟨be, hbe⟩ : ∃ b, W23.heap.size = b := ⟨_, rfl⟩
              rw [hbe] at hz hnx ⊢
              have NBE : Hid (bs ≠ be) := Lib.hid hnx
              clear hnx
              have Gbe : Hid (w1.heap.size ≤ be) := Lib.hid (by rw [← hbe]; exact HB23.out.size)
              have Hbe := Lib.hid hz
              clear hz hbl hbe
              refine hK.out _ _ (trivial : TT _) (fun hHeld => ?_)
              clear hK K
              try simp only [Act.put, setIfInBounds_toArray, set_cons_zero, set_cons_succ]
              refine takeOne (i := 8) (by kernel_rfl) rfl (by rfl) (fun K hK => ?_)
              have z0 : W24.cell? ⟨be, 0, none⟩ = some (.string ⟨#[]⟩) := Hbe.out.cell 0
              have f0 : W24.frozen? ⟨be, 0, none⟩ = false := Hbe.out.free 0
              have z1 : W24.cell? ⟨be, 1, none⟩ = some (.int .i64 0) := Hbe.out.cell 1
              have f1 : W24.frozen? ⟨be, 1, none⟩ = false := Hbe.out.free 1
              have z2 : W24.cell? ⟨be, 2, none⟩ = some (.int .i64 0) := Hbe.out.cell 2
              have f2 : W24.frozen? ⟨be, 2, none⟩ = false := Hbe.out.free 2
              have z3 : W24.cell? ⟨be, 3, none⟩ = some (.int .i64 0) := Hbe.out.cell 3
              have f3 : W24.frozen? ⟨be, 3, none⟩ = false := Hbe.out.free 3
              have z4 : W24.cell? ⟨be, 4, none⟩ = some (.slice none 0 0) := Hbe.out.cell 4
              have f4 : W24.frozen? ⟨be, 4, none⟩ = false := Hbe.out.free 4
              have z5 : W24.cell? ⟨be, 5, none⟩ = some (.bool false) := Hbe.out.cell 5
              have f5 : W24.frozen? ⟨be, 5, none⟩ = false := Hbe.out.free 5
              have z6 : W24.cell? ⟨be, 6, none⟩ = some (.slice none 0 0) := Hbe.out.cell 6
              have f6 : W24.frozen? ⟨be, 6, none⟩ = false := Hbe.out.free 6
              have hne : bs ≠ be := NBE.out
              go_simp
              have hset := set7 Hbe.out (.string ⟨#[97]⟩) (.int .i64 0) (.int .i64 0) (.int .i64 0) (.slice (some ⟨bs, 0, none⟩) 1 1) (.bool false) (.slice none 0 0)
              have hon := only7 W24 be (.string ⟨#[97]⟩) (.int .i64 0) (.int .i64 0) (.int .i64 0) (.slice (some ⟨bs, 0, none⟩) 1 1) (.bool false) (.slice none 0 0)
              have Hbsnn := Lib.hid ((Mv.of_only hon (s := [be]) (by simp)).has Hbsn.out (by rw [List.mem_singleton]; exact hne))
              have HB25 := Lib.hid (hon.below HB24.out HB24.out.size Gbe.out)
              generalize (((((((W24.setCell ⟨be, 0, none⟩ (.string ⟨#[97]⟩)).setCell ⟨be, 1, none⟩ (.int .i64 0)).setCell ⟨be, 2, none⟩ (.int .i64 0)).setCell ⟨be, 3, none⟩ (.int .i64 0)).setCell ⟨be, 4, none⟩ (.slice (some ⟨bs, 0, none⟩) 1 1)).setCell ⟨be, 5, none⟩ (.bool false)).setCell ⟨be, 6, none⟩ (.slice none 0 0)) = W25 at hset hon Hbsnn HB25 ⊢
              have HSET := Lib.hid hset
              clear hset hon hne z0 z1 z2 z3 z4 z5 z6 f0 f1 f2 f3 f4 f5 f6
              refine hK.out _ _ (trivial : TT _) (fun hHeld => ?_)
              clear hK K
              try simp only [Act.put, setIfInBounds_toArray, set_cons_zero, set_cons_succ]
              refine wpAnyH_done (by kernel_rfl) ?_ _
              clear hHeld
              go_wp2_with fail
              go_meet
              exact ⟨be, bs, rfl, Lib.hid ⟨HSET.out, Hbsnn.out, Gbs.out, HB25.out⟩⟩
            · go_simp
              have hbl : Below W20.heap.size W20 (W20.alloc (.cells #[.string ⟨#[]⟩, .int .i64 0, .int .i64 0, .int .i64 0, .slice none 0 0, .bool false, .slice none 0 0] 33)) := (Below.refl _ W20).alloc (Nat.le_refl _) _
              have HB26 := Lib.hid (HB20.out.trans (hbl.mono HB20.out.size))
              have hz := Has.made W20 33 #[.string ⟨#[]⟩, .int .i64 0, .int .i64 0, .int .i64 0, .slice none 0 0, .bool false, .slice none 0 0]
              have Hbann := Lib.hid (Hban.out.of_alloc (.cells #[.string ⟨#[]⟩, .int .i64 0, .int .i64 0, .int .i64 0, .slice none 0 0, .bool false, .slice none 0 0] 33))
              have Hbbn := Lib.hid (Hbb.out.of_alloc (.cells #[.string ⟨#[]⟩, .int .i64 0, .int .i64 0, .int .i64 0, .slice none 0 0, .bool false, .slice none 0 0] 33))
              generalize W20.alloc (.cells #[.string ⟨#[]⟩, .int .i64 0, .int .i64 0, .int .i64 0, .slice none 0 0, .bool false, .slice none 0 0] 33) = W26 at HB26 hz Hbann Hbbn ⊢
              obtain ⟨be, hbe⟩ : ∃ b, W20.heap.size = b := ⟨_, rfl⟩
              rw [hbe] at hz ⊢
              have Gbe : Hid (w1.heap.size ≤ be) := Lib.hid (by rw [← hbe]; exact HB20.out.size)
              have Hbe := Lib.hid hz
              clear hz hbl hbe
              refine hK.out _ _ (trivial : TT _) (fun hHeld => ?_)
              clear hK K
              try simp only [Act.put, setIfInBounds_toArray, set_cons_zero, set_cons_succ]
              refine takeOne (i := 5) (by kernel_rfl) rfl (by rfl) (fun K hK => ?_)
              go_simp
              have hbl : Below W26.heap.size W26 (W26.alloc (.cells #[.string ⟨#[120]⟩, .string (S z32), .string (S z16), .bool false] 51)) := (Below.refl _ W26).alloc (Nat.le_refl _) _
              have HB27 := Lib.hid (HB26.out.trans (hbl.mono HB26.out.size))
              have hnx : be ≠ W26.heap.size := fun e => by have := Hbe.out.lt; omega
              have hz := Has.made W26 51 #[.string ⟨#[120]⟩, .string (S z32), .string (S z16), .bool false]
              have Hbannn := Lib.hid (Hbann.out.of_alloc (.cells #[.string ⟨#[120]⟩, .string (S z32), .string (S z16), .bool false] 51))
              have Hbbnn := Lib.hid (Hbbn.out.of_alloc (.cells #[.string ⟨#[120]⟩, .string (S z32), .string (S z16), .bool false] 51))
              have Hben := Lib.hid (Hbe.out.of_alloc (.cells #[.string ⟨#[120]⟩, .string (S z32), .string (S z16), .bool false] 51))
              generalize W26.alloc (.cells #[.string ⟨#[120]⟩, .string (S z32), .string (S z16), .bool false] 51) = W27 at HB27 hz Hbannn Hbbnn Hben ⊢
              obtain ⟨bs, hbe⟩ : ∃ b, W26.heap.size = b := ⟨_, rfl⟩
              rw [hbe] at hz hnx ⊢
              have NBE : Hid (bs ≠ be) := Lib.hid (fun e => hnx e.symm)
              clear hnx
              have Gbs : Hid (w1.heap.size ≤ bs) := Lib.hid (by rw [← hbe]; exact HB26.out.size)
              have Hbs := Lib.hid hz
              clear hz hbl hbe
              refine hK.out _ _ (trivial : TT _) (fun hHeld => ?_)
              clear hK K
              try simp only [Act.put, setIfInBounds_toArray, set_cons_zero, set_cons_succ]
              first
              | (refine tkW (i := 6) (v := ?_) rfl rfl ?_ ?_; rotate_left; (focus (intro w hSw; (try dsimp only at hSw); go_simp; first | done | with_reducible rfl)); (simp only [Act.at, setIfInBounds_toArray, set_cons_zero, set_cons_succ]))
              | (refine tkU (i := 6) rfl rfl ?_; (simp only [Act.at, setIfInBounds_toArray, set_cons_zero, set_cons_succ]))
              refine takeOne (i := 8) (by kernel_rfl) rfl (by rfl) (fun K hK => ?_)
              have z0 : W27.cell? ⟨be, 0, none⟩ = some (.string ⟨#[]⟩) := Hben.out.cell 0
              have f0 : W27.frozen? ⟨be, 0, none⟩ = false := Hben.out.free 0
              have z1 : W27.cell? ⟨be, 1, none⟩ = some (.int .i64 0) := Hben.out.cell 1
              have f1 : W27.frozen? ⟨be, 1, none⟩ = false := Hben.out.free 1
              have z2 : W27.cell? ⟨be, 2, none⟩ = some (.int .i64 0) := Hben.out.cell 2
              have f2 : W27.frozen? ⟨be, 2, none⟩ = false := Hben.out.free 2
              have z3 : W27.cell? ⟨be, 3, none⟩ = some (.int .i64 0) := Hben.out.cell 3
              have f3 : W27.frozen? ⟨be, 3, none⟩ = false := Hben.out.free 3
              have z4 : W27.cell? ⟨be, 4, none⟩ = some (.slice none 0 0) := Hben.out.cell 4
              have f4 : W27.frozen? ⟨be, 4, none⟩ = false := Hben.out.free 4
              have z5 : W27.cell? ⟨be, 5, none⟩ = some (.bool false) := Hben.out.cell 5
              have f5 : W27.frozen? ⟨be, 5, none⟩ = false := Hben.out.free 5
              have z6 : W27.cell? ⟨be, 6, none⟩ = some (.slice none 0 0) := Hben.out.cell 6
              have f6 : W27.frozen? ⟨be, 6, none⟩ = false := Hben.out.free 6
              have hne : bs ≠ be := NBE.out
              go_simp
              have hset := set7 Hben.out (.string ⟨#[97]⟩) (.int .i64 0) (.int .i64 0) (.int .i64 0) (.slice (some ⟨bs, 0, none⟩) 1 1) (.bool false) (.slice none 0 0)
              have hon := only7 W27 be (.string ⟨#[97]⟩) (.int .i64 0) (.int .i64 0) (.int .i64 0) (.slice (some ⟨bs, 0, none⟩) 1 1) (.bool false) (.slice none 0 0)
              have Hbsn := Lib.hid ((Mv.of_only hon (s := [be]) (by simp)).has Hbs.out (by rw [List.mem_singleton]; exact hne))
              have HB28 := Lib.hid (hon.below HB27.out HB27.out.size Gbe.out)
              generalize (((((((W27.setCell ⟨be, 0, none⟩ (.string ⟨#[97]⟩)).setCell ⟨be, 1, none⟩ (.int .i64 0)).setCell ⟨be, 2, none⟩ (.int .i64 0)).setCell ⟨be, 3, none⟩ (.int .i64 0)).setCell ⟨be, 4, none⟩ (.slice (some ⟨bs, 0, none⟩) 1 1)).setCell ⟨be, 5, none⟩ (.bool false)).setCell ⟨be, 6, none⟩ (.slice none 0 0)) = W28 at hset hon Hbsn HB28 ⊢
              have HSET := Lib.hid hset
              clear hset hon hne z0 z1 z2 z3 z4 z5 z6 f0 f1 f2 f3 f4 f5 f6
              refine hK.out _ _ (trivial : TT _) (fun hHeld => ?_)
              clear hK K
              try simp only [Act.put, setIfInBounds_toArray, set_cons_zero, set_cons_succ]
              refine wpAnyH_done (by kernel_rfl) ?_ _
              clear hHeld
              go_wp2_with fail
              go_meet
              exact ⟨be, bs, rfl, Lib.hid ⟨HSET.out, Hbsn.out, Gbs.out, HB28.out⟩⟩
          · go_simp
            have hbl : Below W20.heap.size W20 (W20.alloc (.cells #[.string ⟨#[]⟩, .int .i64 0, .int .i64 0, .int .i64 0, .slice none 0 0, .bool false, .slice none 0 0] 33)) := (Below.refl _ W20).alloc (Nat.le_refl _) _
            have HB29 := Lib.hid (HB20.out.trans (hbl.mono HB20.out.size))
            have hz := Has.made W20 33 #[.string ⟨#[]⟩, .int .i64 0, .int .i64 0, .int .i64 0, .slice none 0 0, .bool false, .slice none 0 0]
            have Hbann := Lib.hid (Hban.out.of_alloc (.cells #[.string ⟨#[]⟩, .int .i64 0, .int .i64 0, .int .i64 0, .slice none 0 0, .bool false, .slice none 0 0] 33))
            have Hbbn := Lib.hid (Hbb.out.of_alloc (.cells #[.string ⟨#[]⟩, .int .i64 0, .int .i64 0, .int .i64 0, .slice none 0 0, .bool false, .slice none 0 0] 33))
            generalize W20.alloc (.cells #[.string ⟨#[]⟩, .int .i64 0, .int .i64 0, .int .i64 0, .slice none 0 0, .bool false, .slice none 0 0] 33) = W29 at HB29 hz Hbann Hbbn ⊢
            obtain ⟨be, hbe⟩ : ∃ b, W20.heap.size = b := ⟨_, rfl⟩
            rw [hbe] at hz ⊢
            have Gbe : Hid (w1.heap.size ≤ be) := Lib.hid (by rw [← hbe]; exact HB20.out.size)
            have Hbe := Lib.hid hz
            clear hz hbl hbe
            refine hK.out _ _ (trivial : TT _) (fun hHeld => ?_)
            clear hK K
            try simp only [Act.put, setIfInBounds_toArray, set_cons_zero, set_cons_succ]
            refine takeOne (i := 3) (by kernel_rfl) rfl (by rfl) (fun K hK => ?_)
            have hcv := cv16 Hbbn.out
            go_simp
            clear hcv
            refine hK.out _ _ (trivial : TT _) (fun hHeld => ?_)
            clear hK K
            try simp only [Act.put, setIfInBounds_toArray, set_cons_zero, set_cons_succ]
            first
            | (refine tkW (i := 4) (v := ?_) rfl rfl ?_ ?_; rotate_left; (focus (intro w hSw; (try dsimp only at hSw); go_simp; first | done | with_reducible rfl)); (simp only [Act.at, setIfInBounds_toArray, set_cons_zero, set_cons_succ]))
            | (refine tkU (i := 4) rfl rfl ?_; (simp only [Act.at, setIfInBounds_toArray, set_cons_zero, set_cons_succ]))
            refine takeOne (i := 5) (by kernel_rfl) rfl (by rfl) (fun K hK => ?_)
            go_simp
            have hbl : Below W29.heap.size W29 (W29.alloc (.cells #[.string ⟨#[120]⟩, .string (S z32), .string (S z16), .bool false] 51)) := (Below.refl _ W29).alloc (Nat.le_refl _) _
            have HB31 := Lib.hid (HB29.out.trans (hbl.mono HB29.out.size))
            have hnx : be ≠ W29.heap.size := fun e => by have := Hbe.out.lt; omega
            have hz := Has.made W29 51 #[.string ⟨#[120]⟩, .string (S z32), .string (S z16), .bool false]
            have Hbannn := Lib.hid (Hbann.out.of_alloc (.cells #[.string ⟨#[120]⟩, .string (S z32), .string (S z16), .bool false] 51))
            have Hbbnn := Lib.hid (Hbbn.out.of_alloc (.cells #[.string ⟨#[120]⟩, .string (S z32), .string (S z16), .bool false] 51))
            have Hben := Lib.hid (Hbe.out.of_alloc (.cells #[.string ⟨#[120]⟩, .string (S z32), .string (S z16), .bool false] 51))
            generalize W29.alloc (.cells #[.string ⟨#[120]⟩, .string (S z32), .string (S z16), .bool false] 51) = W31 at HB31 hz Hbannn Hbbnn Hben ⊢
            obtain ⟨bs, hbe⟩ : ∃ b, W29.heap.size = b := ⟨_, rfl⟩
            rw [hbe] at hz hnx ⊢
            have NBE : Hid (bs ≠ be) := Lib.hid (fun e => hnx e.symm)
            clear hnx
            have Gbs : Hid (w1.heap.size ≤ bs) := Lib.hid (by rw [← hbe]; exact HB29.out.size)
            have Hbs := Lib.hid hz
            clear hz hbl hbe
            refine hK.out _ _ (trivial : TT _) (fun hHeld => ?_)
            clear hK K
            try simp only [Act.put, setIfInBounds_toArray, set_cons_zero, set_cons_succ]
            first
            | (refine tkW (i := 6) (v := ?_) rfl rfl ?_ ?_; rotate_left; (focus (intro w hSw; (try dsimp only at hSw); go_simp; first | done | with_reducible rfl)); (simp only [Act.at, setIfInBounds_toArray, set_cons_zero, set_cons_succ]))
            | (refine tkU (i := 6) rfl rfl ?_; (simp only [Act.at, setIfInBounds_toArray, set_cons_zero, set_cons_succ]))
            refine takeOne (i := 8) (by kernel_rfl) rfl (by rfl) (fun K hK => ?_)
            have z0 : W31.cell? ⟨be, 0, none⟩ = some (.string ⟨#[]⟩) := Hben.out.cell 0
            have f0 : W31.frozen? ⟨be, 0, none⟩ = false := Hben.out.free 0
            have z1 : W31.cell? ⟨be, 1, none⟩ = some (.int .i64 0) := Hben.out.cell 1
            have f1 : W31.frozen? ⟨be, 1, none⟩ = false := Hben.out.free 1
            have z2 : W31.cell? ⟨be, 2, none⟩ = some (.int .i64 0) := Hben.out.cell 2
            have f2 : W31.frozen? ⟨be, 2, none⟩ = false := Hben.out.free 2
            have z3 : W31.cell? ⟨be, 3, none⟩ = some (.int .i64 0) := Hben.out.cell 3
            have f3 : W31.frozen? ⟨be, 3, none⟩ = false := Hben.out.free 3
            have z4 : W31.cell? ⟨be, 4, none⟩ = some (.slice none 0 0) := Hben.out.cell 4
            have f4 : W31.frozen? ⟨be, 4, none⟩ = false := Hben.out.free 4
            have z5 : W31.cell? ⟨be, 5, none⟩ = some (.bool false) := Hben.out.cell 5
            have f5 : W31.frozen? ⟨be, 5, none⟩ = false := Hben.out.free 5
            have z6 : W31.cell? ⟨be, 6, none⟩ = some (.slice none 0 0) := Hben.out.cell 6
            have f6 : W31.frozen? ⟨be, 6, none⟩ = false := Hben.out.free 6
            have hne : bs ≠ be := NBE.out
            go_simp
            have hset := set7 Hben.out (.string ⟨#[97]⟩) (.int .i64 0) (.int .i64 0) (.int .i64 0) (.slice (some ⟨bs, 0, none⟩) 1 1) (.bool false) (.slice none 0 0)
            have hon := only7 W31 be (.string ⟨#[97]⟩) (.int .i64 0) (.int .i64 0) (.int .i64 0) (.slice (some ⟨bs, 0, none⟩) 1 1) (.bool false) (.slice none 0 0)
            have Hbsn := Lib.hid ((Mv.of_only hon (s := [be]) (by simp)).has Hbs.out (by rw [List.mem_singleton]; exact hne))
            have HB32 := Lib.hid (hon.below HB31.out HB31.out.size Gbe.out)
            generalize (((((((W31.setCell ⟨be, 0, none⟩ (.string ⟨#[97]⟩)).setCell ⟨be, 1, none⟩ (.int .i64 0)).setCell ⟨be, 2, none⟩ (.int .i64 0)).setCell ⟨be, 3, none⟩ (.int .i64 0)).setCell ⟨be, 4, none⟩ (.slice (some ⟨bs, 0, none⟩) 1 1)).setCell ⟨be, 5, none⟩ (.bool false)).setCell ⟨be, 6, none⟩ (.slice none 0 0)) = W32 at hset hon Hbsn HB32 ⊢
            have HSET := Lib.hid hset
            clear hset hon hne z0 z1 z2 z3 z4 z5 z6 f0 f1 f2 f3 f4 f5 f6
            refine hK.out _ _ (trivial : TT _) (fun hHeld => ?_)
            clear hK K
            try simp only [Act.put, setIfInBounds_toArray, set_cons_zero, set_cons_succ]
            refine wpAnyH_done (by kernel_rfl) ?_ _
            clear hHeld
            go_wp2_with fail
            go_meet
            exact ⟨be, bs, rfl, Lib.hid ⟨HSET.out, Hbsn.out, Gbs.out, HB32.out⟩⟩
        · have hcv := cv16 Hbb.out
          go_simp
          clear hcv
          refine hK.out _ _ (trivial : TT _) (fun hHeld => ?_)
          clear hK K
          try simp only [Act.put, setIfInBounds_toArray, set_cons_zero, set_cons_succ]
          refine takeTwo (i := 1) (j := 7) (by kernel_rfl) rfl rfl (by rfl) (by rfl) (fun K hK => ?_) (fun K hK => ?_)
          · have hcv := cv32 Hban.out
            go_simp
            clear hcv
            refine hK.out _ _ (trivial : TT _) (fun hHeld => ?_)
            clear hK K
            try simp only [Act.put, setIfInBounds_toArray, set_cons_zero, set_cons_succ]
            first
            | (refine tkW (i := 4) (v := ?_) rfl rfl ?_ ?_; rotate_left; (focus (intro w hSw; (try dsimp only at hSw); go_simp; first | done | with_reducible rfl)); (simp only [Act.at, setIfInBounds_toArray, set_cons_zero, set_cons_succ]))
            | (refine tkU (i := 4) rfl rfl ?_; (simp only [Act.at, setIfInBounds_toArray, set_cons_zero, set_cons_succ]))
            refine takeTwo (i := 5) (j := 7) (by kernel_rfl) rfl rfl (by rfl) (by rfl) (fun K hK => ?_) (fun K hK => ?_)
            · go_simp
              have hbl : Below W20.heap.size W20 (W20.alloc (.cells #[.string ⟨#[120]⟩, .string (S z32), .string (S z16), .bool false] 51)) := (Below.refl _ W20).alloc (Nat.le_refl _) _
              have HB35 := Lib.hid (HB20.out.trans (hbl.mono HB20.out.size))
              have hz := Has.made W20 51 #[.string ⟨#[120]⟩, .string (S z32), .string (S z16), .bool false]
              have Hbann := Lib.hid (Hban.out.of_alloc (.cells #[.string ⟨#[120]⟩, .string (S z32), .string (S z16), .bool false] 51))
              have Hbbn := Lib.hid (Hbb.out.of_alloc (.cells #[.string ⟨#[120]⟩, .string (S z32), .string (S z16), .bool false] 51))
              generalize W20.alloc (.cells #[.string ⟨#[120]⟩, .string (S z32), .string (S z16), .bool false] 51) = W35 at HB35 hz Hbann Hbbn ⊢
              obtain ⟨bs, hbe⟩ : ∃ b, W20.heap.size = b := ⟨_, rfl⟩
              rw [hbe] at hz ⊢
              have Gbs : Hid (w1.heap.size ≤ bs) := Lib.hid (by rw [← hbe]; exact HB20.out.size)
              have Hbs := Lib.hid hz
              clear hz hbl hbe
              refine hK.out _ _ (trivial : TT _) (fun hHeld => ?_)
              clear hK K
              try simp only [Act.put, setIfInBounds_toArray, set_cons_zero, set_cons_succ]
              first
              | (refine tkW (i := 6) (v := ?_) rfl rfl ?_ ?_; rotate_left; (focus (intro w hSw; (try dsimp only at hSw); go_simp; first | done | with_reducible rfl)); (simp only [Act.at, setIfInBounds_toArray, set_cons_zero, set_cons_succ]))
              | (refine tkU (i := 6) rfl rfl ?_; (simp only [Act.at, setIfInBounds_toArray, set_cons_zero, set_cons_succ]))
              refine takeOne (i := 7) (by kernel_rfl) rfl (by rfl) (fun K hK => ?_)
              go_simp
              have hbl : Below W35.heap.size W35 (W35.alloc (.cells #[.string ⟨#[]⟩, .int .i64 0, .int .i64 0, .int .i64 0, .slice none 0 0, .bool false, .slice none 0 0] 33)) := (Below.refl _ W35).alloc (Nat.le_refl _) _
              have HB36 := Lib.hid (HB35.out.trans (hbl.mono HB35.out.size))
              have hnx : bs ≠ W35.heap.size := fun e => by have := Hbs.out.lt; omega
              have hz := Has.made W35 33 #[.string ⟨#[]⟩, .int .i64 0, .int .i64 0, .int .i64 0, .slice none 0 0, .bool false, .slice none 0 0]
              have Hbannn := Lib.hid (Hbann.out.of_alloc (.cells #[.string ⟨#[]⟩, .int .i64 0, .int .i64 0, .int .i64 0, .slice none 0 0, .bool false, .slice none 0 0] 33))
              have Hbbnn := Lib.hid (Hbbn.out.of_alloc (.cells #[.string ⟨#[]⟩, .int .i64 0, .int .i64 0, .int .i64 0, .slice none 0 0, .bool false, .slice none 0 0] 33))
              have Hbsn := Lib.hid (Hbs.out.of_alloc (.cells #[.string ⟨#[]⟩, .int .i64 0, .int .i64 0, .int .i64 0, .slice none 0 0, .bool false, .slice none 0 0] 33))
              generalize W35.alloc (.cells #[.string ⟨#[]⟩, .int .i64 0, .int .i64 0, .int .i64 0, .slice none 0 0, .bool false, .slice none 0 0] 33) = W36 at HB36 hz Hbannn Hbbnn Hbsn ⊢
              obtain ⟨be, hbe⟩ : ∃ b, W35.heap.size = b := ⟨_, rfl⟩
              rw [hbe] at hz hnx ⊢
              have NBE : Hid (bs ≠ be) := Lib.hid hnx
              clear hnx
              have Gbe : Hid (w1.heap.size ≤ be) := Lib.hid (by rw [← hbe]; exact HB35.out.size)
              have Hbe := Lib.hid hz
              clear hz hbl hbe
              refine hK.out _ _ (trivial : TT _) (fun hHeld => ?_)
              clear hK K
              try simp only [Act.put, setIfInBounds_toArray, set_cons_zero, set_cons_succ]
              refine takeOne (i := 8) (by kernel_rfl) rfl (by rfl) (fun K hK => ?_)
              have z0 : W36.cell? ⟨be, 0, none⟩ = some (.string ⟨#[]⟩) := Hbe.out.cell 0
              have f0 : W36.frozen? ⟨be, 0, none⟩ = false := Hbe.out.free 0
              have z1 : W36.cell? ⟨be, 1, none⟩ = some (.int .i64 0) := Hbe.out.cell 1
              have f1 : W36.frozen? ⟨be, 1, none⟩ = false := Hbe.out.free 1
              have z2 : W36.cell? ⟨be, 2, none⟩ = some (.int .i64 0) := Hbe.out.cell 2
              have f2 : W36.frozen? ⟨be, 2, none⟩ = false := Hbe.out.free 2
              have z3 : W36.cell? ⟨be, 3, none⟩ = some (.int .i64 0) := Hbe.out.cell 3
              have f3 : W36.frozen? ⟨be, 3, none⟩ = false := Hbe.out.free 3
              have z4 : W36.cell? ⟨be, 4, none⟩ = some (.slice none 0 0) := Hbe.out.cell 4
              have f4 : W36.frozen? ⟨be, 4, none⟩ = false := Hbe.out.free 4
              have z5 : W36.cell? ⟨be, 5, none⟩ = some (.bool false) := Hbe.out.cell 5
              have f5 : W36.frozen? ⟨be, 5, none⟩ = false := Hbe.out.free 5
              have z6 : W36.cell? ⟨be, 6, none⟩ = some (.slice none 0 0) := Hbe.out.cell 6
              have f6 : W36.frozen? ⟨be, 6, none⟩ = false := Hbe.out.free 6
              have hne : bs ≠ be := NBE.out
              go_simp
              have hset := set7 Hbe.out (.string ⟨#[97]⟩) (.int .i64 0) (.int .i64 0) (.int .i64 0) (.slice (some ⟨bs, 0, none⟩) 1 1) (.bool false) (.slice none 0 0)
              have hon := only7 W36 be (.string ⟨#[97]⟩) (.int .i64 0) (.int .i64 0) (.int .i64 0) (.slice (some ⟨bs, 0, none⟩) 1 1) (.bool false) (.slice none 0 0)
              have Hbsnn := Lib.hid ((Mv.of_only hon (s := [be]) (by simp)).has Hbsn.out (by rw [List.mem_singleton]; exact hne))
              have HB37 := Lib.hid (hon.below HB36.out HB36.out.size Gbe.out)
              generalize (((((((W36.setCell ⟨be, 0, none⟩ (.string ⟨#[97]⟩)).setCell ⟨be, 1, none⟩ (.int .i64 0)).setCell ⟨be, 2, none⟩ (.int .i64 0)).setCell ⟨be, 3, none⟩ (.int .i64 0)).setCell ⟨be, 4, none⟩ (.slice (some ⟨bs, 0, none⟩) 1 1)).setCell ⟨be, 5, none⟩ (.bool false)).setCell ⟨be, 6, none⟩ (.slice none 0 0)) = W37 at hset hon Hbsnn HB37 ⊢
              have HSET := Lib.hid hset
              clear hset hon hne z0 z1 z2 z3 z4 z5 z6 f0 f1 f2 f3 f4 f5 f6
              refine hK.out _ _ (trivial : TT _) (fun hHeld => ?_)
              clear hK K
              try simp only [Act.put, setIfInBounds_toArray, set_cons_zero, set_cons_succ]
              refine wpAnyH_done (by kernel_rfl) ?_ _
              clear hHeld
              go_wp2_with fail
              go_meet
              exact ⟨be, bs, rfl, Lib.hid ⟨HSET.out, Hbsnn.out, Gbs.out, HB37.out⟩⟩
            · go_simp
              have hbl : Below W20.heap.size W20 (W20.alloc (.cells #[.string ⟨#[]⟩, .int .i64 0, .int .i64 0, .int .i64 0, .slice none 0 0, .bool false, .slice none 0 0] 33)) := (Below.refl _ W20).alloc (Nat.le_refl _) _
              have HB38 := Lib.hid (HB20.out.trans (hbl.mono HB20.out.size))
              have hz := Has.made W20 33 #[.string ⟨#[]⟩, .int .i64 0, .int .i64 0, .int .i64 0, .slice none 0 0, .bool false, .slice none 0 0]
              have Hbann := Lib.hid (Hban.out.of_alloc (.cells #[.string ⟨#[]⟩, .int .i64 0, .int .i64 0, .int .i64 0, .slice none 0 0, .bool false, .slice none 0 0] 33))
              have Hbbn := Lib.hid (Hbb.out.of_alloc (.cells #[.string ⟨#[]⟩, .int .i64 0, .int .i64 0, .int .i64 0, .slice none 0 0, .bool false, .slice none 0 0] 33))
              generalize W20.alloc (.cells #[.string ⟨#[]⟩, .int .i64 0, .int .i64 0, .int .i64 0, .slice none 0 0, .bool false, .slice none 0 0] 33) = W38 at HB38 hz Hbann Hbbn ⊢
              obtain ⟨be, hbe⟩ : ∃ b, W20.heap.size = b := ⟨_, rfl⟩
              rw [hbe] at hz ⊢
              have Gbe : Hid (w1.heap.size ≤ be) := Lib.hid (by rw [← hbe]; exact HB20.out.size)
              have Hbe := Lib.hid hz
              clear hz hbl hbe
              refine hK.out _ _ (trivial : TT _) (fun hHeld => ?_)
              clear hK K
              try simp only [Act.put, setIfInBounds_toArray, set_cons_zero, set_cons_succ]
              refine takeOne (i := 5) (by kernel_rfl) rfl (by rfl) (fun K hK => ?_)
              go_simp
              have hbl : Below W38.heap.size W38 (W38.alloc (.cells #[.string ⟨#[120]⟩, .string (S z32), .string (S z16), .bool false] 51)) := (Below.refl _ W38).alloc (Nat.le_refl _) _
              have HB39 := Lib.hid (HB38.out.trans (hbl.mono HB38.out.size))
              have hnx : be ≠ W38.heap.size := fun e => by have := Hbe.out.lt; omega
              have hz := Has.made W38 51 #[.string ⟨#[120]⟩, .string (S z32), .string (S z16), .bool false]
              have Hbannn := Lib.hid (Hbann.out.of_alloc (.cells #[.string ⟨#[120]⟩, .string (S z32), .string (S z16), .bool false] 51))
              have Hbbnn := Lib.hid (Hbbn.out.of_alloc (.cells #[.string ⟨#[120]⟩, .string (S z32), .string (S z16), .bool false] 51))
              have Hben := Lib.hid (Hbe.out.of_alloc (.cells #[.string ⟨#[120]⟩, .string (S z32), .string (S z16), .bool false] 51))
              generalize W38.alloc (.cells #[.string ⟨#[120]⟩, .string (S z32), .string (S z16), .bool false] 51) = W39 at HB39 hz Hbannn Hbbnn Hben ⊢
              obtain ⟨bs, hbe⟩ : ∃ b, W38.heap.size = b := ⟨_, rfl⟩
              rw [hbe] at hz hnx ⊢
              have NBE : Hid (bs ≠ be) := Lib.hid (fun e => hnx e.symm)
              clear hnx
              have Gbs : Hid (w1.heap.size ≤ bs) := Lib.hid (by rw [← hbe]; exact HB38.out.size)
              have Hbs := Lib.hid hz
              clear hz hbl hbe
              refine hK.out _ _ (trivial : TT _) (fun hHeld => ?_)
              clear hK K
              try simp only [Act.put, setIfInBounds_toArray, set_cons_zero, set_cons_succ]
              first
              | (refine tkW (i := 6) (v := ?_) rfl rfl ?_ ?_; rotate_left; (focus (intro w hSw; (try dsimp only at hSw); go_simp; first | done | with_reducible rfl)); (simp only [Act.at, setIfInBounds_toArray, set_cons_zero, set_cons_succ]))
              | (refine tkU (i := 6) rfl rfl ?_; (simp only [Act.at, setIfInBounds_toArray, set_cons_zero, set_cons_succ]))
              refine takeOne (i := 8) (by kernel_rfl) rfl (by rfl) (fun K hK => ?_)
              have z0 : W39.cell? ⟨be, 0, none⟩ = some (.string ⟨#[]⟩) := Hben.out.cell 0
              have f0 : W39.frozen? ⟨be, 0, none⟩ = false := Hben.out.free 0
              have z1 : W39.cell? ⟨be, 1, none⟩ = some (.int .i64 0) := Hben.out.cell 1
              have f1 : W39.frozen? ⟨be, 1, none⟩ = false := Hben.out.free 1
              have z2 : W39.cell? ⟨be, 2, none⟩ = some (.int .i64 0) := Hben.out.cell 2
              have f2 : W39.frozen? ⟨be, 2, none⟩ = false := Hben.out.free 2
              have z3 : W39.cell? ⟨be, 3, none⟩ = some (.int .i64 0) := Hben.out.cell 3
              have f3 : W39.frozen? ⟨be, 3, none⟩ = false := Hben.out.free 3
              have z4 : W39.cell? ⟨be, 4, none⟩ = some (.slice none 0 0) := Hben.out.cell 4
              have f4 : W39.frozen? ⟨be, 4, none⟩ = false := Hben.out.free 4
              have z5 : W39.cell? ⟨be, 5, none⟩ = some (.bool false) := Hben.out.cell 5
              have f5 : W39.frozen? ⟨be, 5, none⟩ = false := Hben.out.free 5
              have z6 : W39.cell? ⟨be, 6, none⟩ = some (.slice none 0 0) := Hben.out.cell 6
              have f6 : W39.frozen? ⟨be, 6, none⟩ = false := Hben.out.free 6
              have hne : bs ≠ be := NBE.out
              go_simp
              have hset := set7 Hben.out (.string ⟨#[97]⟩) (.int .i64 0) (.int .i64 0) (.int .i64 0) (.slice (some ⟨bs, 0, none⟩) 1 1) (.bool false) (.slice none 0 0)
              have hon := only7 W39 be (.string ⟨#[97]⟩) (.int .i64 0) (.int .i64 0) (.int .i64 0) (.slice (some ⟨bs, 0, none⟩) 1 1) (.bool false) (.slice none 0 0)
              have Hbsn := Lib.hid ((Mv.of_only hon (s := [be]) (by simp)).has Hbs.out (by rw [List.mem_singleton]; exact hne))
              have HB40 := Lib.hid (hon.below HB39.out HB39.out.size Gbe.out)
              generalize (((((((W39.setCell ⟨be, 0, none⟩ (.string ⟨#[97]⟩)).setCell ⟨be, 1, none⟩ (.int .i64 0)).setCell ⟨be, 2, none⟩ (.int .i64 0)).setCell ⟨be, 3, none⟩ (.int .i64 0)).setCell ⟨be, 4, none⟩ (.slice (some ⟨bs, 0, none⟩) 1 1)).setCell ⟨be, 5, none⟩ (.bool false)).setCell ⟨be, 6, none⟩ (.slice none 0 0)) = W40 at hset hon Hbsn HB40 ⊢
              have HSET := Lib.hid hset
              clear hset hon hne z0 z1 z2 z3 z4 z5 z6 f0 f1 f2 f3 f4 f5 f6
              refine hK.out _ _ (trivial : TT _) (fun hHeld => ?_)
              clear hK K
              try simp only [Act.put, setIfInBounds_toArray, set_cons_zero, set_cons_succ]
              refine wpAnyH_done (by kernel_rfl) ?_ _
              clear hHeld
              go_wp2_with fail
              go_meet
              exact ⟨be, bs, rfl, Lib.hid ⟨HSET.out, Hbsn.out, Gbs.out, HB40.out⟩⟩
          · go_simp
            have hbl : Below W20.heap.size W20 (W20.alloc (.cells #[.string ⟨#[]⟩, .int .i64 0, .int .i64 0, .int .i64 0, .slice none 0 0, .bool false, .slice none 0 0] 33)) := (Below.refl _ W20).alloc (Nat.le_refl _) _
            have HB41 := Lib.hid (HB20.out.trans (hbl.mono HB20.out.size))
            have hz := Has.made W20 33 #[.string ⟨#[]⟩, .int .i64 0, .int .i64 0, .int .i64 0, .slice none 0 0, .bool false, .slice none 0 0]
            have Hbann := Lib.hid (Hban.out.of_alloc (.cells #[.string ⟨#[]⟩, .int .i64 0, .int .i64 0, .int .i64 0, .slice none 0 0, .bool false, .slice none 0 0] 33))
            have Hbbn := Lib.hid (Hbb.out.of_alloc (.cells #[.string ⟨#[]⟩, .int .i64 0, .int .i64 0, .int .i64 0, .slice none 0 0, .bool false, .slice none 0 0] 33))
            generalize W20.alloc (.cells #[.string ⟨#[]⟩, .int .i64 0, .int .i64 0, .int .i64 0, .slice none 0 0, .bool false, .slice none 0 0] 33) = W41 at HB41 hz Hbann Hbbn ⊢
            obtain ⟨be, hbe⟩ : ∃ b, W20.heap.size = b := ⟨_, rfl⟩
            rw [hbe] at hz ⊢
            have Gbe : Hid (w1.heap.size ≤ be) := Lib.hid (by rw [← hbe]; exact HB20.out.size)
            have Hbe := Lib.hid hz
            clear hz hbl hbe
            refine hK.out _ _ (trivial : TT _) (fun hHeld => ?_)
            clear hK K
            try simp only [Act.put, setIfInBounds_toArray, set_cons_zero, set_cons_succ]
            refine takeOne (i := 1) (by kernel_rfl) rfl (by rfl) (fun K hK => ?_)
            have hcv := cv32 Hbann.out
            go_simp
            clear hcv
            refine hK.out _ _ (trivial : TT _) (fun hHeld => ?_)
            clear hK K
            try simp only [Act.put, setIfInBounds_toArray, set_cons_zero, set_cons_succ]
            first
            | (refine tkW (i := 4) (v := ?_) rfl rfl ?_ ?_; rotate_left; (focus (intro w hSw; (try dsimp only at hSw); go_simp; first | done | with_reducible rfl)); (simp only [Act.at, setIfInBounds_toArray, set_cons_zero, set_cons_succ]))
            | (refine tkU (i := 4) rfl rfl ?_; (simp only [Act.at, setIfInBounds_toArray, set_cons_zero, set_cons_succ]))
            refine takeOne (i := 5) (by kernel_rfl) rfl (by rfl) (fun K hK => ?_)
            go_simp
            have hbl : Below W41.heap.size W41 (W41.alloc (.cells #[.string ⟨#[120]⟩, .string (S z32), .string (S z16), .bool false] 51)) := (Below.refl _ W41).alloc (Nat.le_refl _) _
            have HB43 := Lib.hid (HB41.out.trans (hbl.mono HB41.out.size))
            have hnx : be ≠ W41.heap.size := fun e => by have := Hbe.out.lt; omega
            have hz := Has.made W41 51 #[.string ⟨#[120]⟩, .string (S z32), .string (S z16), .bool false]
            have Hbannn := Lib.hid (Hbann.out.of_alloc (.cells #[.string ⟨#[120]⟩, .string (S z32), .string (S z16), .bool false] 51))
            have Hbbnn := Lib.hid (Hbbn.out.of_alloc (.cells #[.string ⟨#[120]⟩, .string (S z32), .string (S z16), .bool false] 51))
            have Hben := Lib.hid (Hbe.out.of_alloc (.cells #[.string ⟨#[120]⟩, .string (S z32), .string (S z16), .bool false] 51))
            generalize W41.alloc (.cells #[.string ⟨#[120]⟩, .string (S z32), .string (S z16), .bool false] 51) = W43 at HB43 hz Hbannn Hbbnn Hben ⊢
            obtain ⟨bs, hbe⟩ : ∃ b, W41.heap.size = b := ⟨_, rfl⟩
            rw [hbe] at hz hnx ⊢
            have NBE : Hid (bs ≠ be) := Lib.hid (fun e => hnx e.symm)
            clear hnx
            have Gbs : Hid (w1.heap.size ≤ bs) := Lib.hid (by rw [← hbe]; exact HB41.out.size)
            have Hbs := Lib.hid hz
            clear hz hbl hbe
            refine hK.out _ _ (trivial : TT _) (fun hHeld => ?_)
            clear hK K
            try simp only [Act.put, setIfInBounds_toArray, set_cons_zero, set_cons_succ]
            first
            | (refine tkW (i := 6) (v := ?_) rfl rfl ?_ ?_; rotate_left; (focus (intro w hSw; (try dsimp only at hSw); go_simp; first | done | with_reducible rfl)); (simp only [Act.at, setIfInBounds_toArray, set_cons_zero, set_cons_succ]))
            | (refine tkU (i := 6) rfl rfl ?_; (simp only [Act.at, setIfInBounds_toArray, set_cons_zero, set_cons_succ]))
            refine takeOne (i := 8) (by kernel_rfl) rfl (by rfl) (fun K hK => ?_)
            have z0 : W43.cell? ⟨be, 0, none⟩ = some (.string ⟨#[]⟩) := Hben.out.cell 0
            have f0 : W43.frozen? ⟨be, 0, none⟩ = false := Hben.out.free 0
            have z1 : W43.cell? ⟨be, 1, none⟩ = some (.int .i64 0) := Hben.out.cell 1
            have f1 : W43.frozen? ⟨be, 1, none⟩ = false := Hben.out.free 1
            have z2 : W43.cell? ⟨be, 2, none⟩ = some (.int .i64 0) := Hben.out.cell 2
            have f2 : W43.frozen? ⟨be, 2, none⟩ = false := Hben.out.free 2
            have z3 : W43.cell? ⟨be, 3, none⟩ = some (.int .i64 0) := Hben.out.cell 3
            have f3 : W43.frozen? ⟨be, 3, none⟩ = false := Hben.out.free 3
            have z4 : W43.cell? ⟨be, 4, none⟩ = some (.slice none 0 0) := Hben.out.cell 4
            have f4 : W43.frozen? ⟨be, 4, none⟩ = false := Hben.out.free 4
            have z5 : W43.cell? ⟨be, 5, none⟩ = some (.bool false) := Hben.out.cell 5
            have f5 : W43.frozen? ⟨be, 5, none⟩ = false := Hben.out.free 5
            have z6 : W43.cell? ⟨be, 6, none⟩ = some (.slice none 0 0) := Hben.out.cell 6
            have f6 : W43.frozen? ⟨be, 6, none⟩ = false := Hben.out.free 6
            have hne : bs ≠ be := NBE.out
            go_simp
            have hset := set7 Hben.out (.string ⟨#[97]⟩) (.int .i64 0) (.int .i64 0) (.int .i64 0) (.slice (some ⟨bs, 0, none⟩) 1 1) (.bool false) (.slice none 0 0)
            have hon := only7 W43 be (.string ⟨#[97]⟩) (.int .i64 0) (.int .i64 0) (.int .i64 0) (.slice (some ⟨bs, 0, none⟩) 1 1) (.bool false) (.slice none 0 0)
            have Hbsn := Lib.hid ((Mv.of_only hon (s := [be]) (by simp)).has Hbs.out (by rw [List.mem_singleton]; exact hne))
            have HB44 := Lib.hid (hon.below HB43.out HB43.out.size Gbe.out)
            generalize (((((((W43.setCell ⟨be, 0, none⟩ (.string ⟨#[97]⟩)).setCell ⟨be, 1, none⟩ (.int .i64 0)).setCell ⟨be, 2, none⟩ (.int .i64 0)).setCell ⟨be, 3, none⟩ (.int .i64 0)).setCell ⟨be, 4, none⟩ (.slice (some ⟨bs, 0, none⟩) 1 1)).setCell ⟨be, 5, none⟩ (.bool false)).setCell ⟨be, 6, none⟩ (.slice none 0 0)) = W44 at hset hon Hbsn HB44 ⊢
            have HSET := Lib.hid hset
            clear hset hon hne z0 z1 z2 z3 z4 z5 z6 f0 f1 f2 f3 f4 f5 f6
            refine hK.out _ _ (trivial : TT _) (fun hHeld => ?_)
            clear hK K
            try simp only [Act.put, setIfInBounds_toArray, set_cons_zero, set_cons_succ]
            refine wpAnyH_done (by kernel_rfl) ?_ _
            clear hHeld
            go_wp2_with fail
            go_meet
            exact ⟨be, bs, rfl, Lib.hid ⟨HSET.out, Hbsn.out, Gbs.out, HB44.out⟩⟩
        · go_simp
          have hbl : Below W20.heap.size W20 (W20.alloc (.cells #[.string ⟨#[]⟩, .int .i64 0, .int .i64 0, .int .i64 0, .slice none 0 0, .bool false, .slice none 0 0] 33)) := (Below.refl _ W20).alloc (Nat.le_refl _) _
          have HB45 := Lib.hid (HB20.out.trans (hbl.mono HB20.out.size))
          have hz := Has.made W20 33 #[.string ⟨#[]⟩, .int .i64 0, .int .i64 0, .int .i64 0, .slice none 0 0, .bool false, .slice none 0 0]
          have Hbann := Lib.hid (Hban.out.of_alloc (.cells #[.string ⟨#[]⟩, .int .i64 0, .int .i64 0, .int .i64 0, .slice none 0 0, .bool false, .slice none 0 0] 33))
          have Hbbn := Lib.hid (Hbb.out.of_alloc (.cells #[.string ⟨#[]⟩, .int .i64 0, .int .i64 0, .int .i64 0, .slice none 0 0, .bool false, .slice none 0 0] 33))
          generalize W20.alloc (.cells #[.string ⟨#[]⟩, .int .i64 0, .int .i64 0, .int .i64 0, .slice none 0 0, .bool false, .slice none 0 0] 33) = W45 at HB45 hz Hbann Hbbn ⊢
          obtain ⟨be, hbe⟩ : ∃ b, W20.heap.size = b := ⟨_, rfl⟩
          rw [hbe] at hz ⊢
          have Gbe : Hid (w1.heap.size ≤ be) := Lib.hid (by rw [← hbe]; exact HB20.out.size)
          have Hbe := Lib.hid hz
          clear hz hbl hbe
          refine hK.out _ _ (trivial : TT _) (fun hHeld => ?_)
          clear hK K
          try simp only [Act.put, setIfInBounds_toArray, set_cons_zero, set_cons_succ]
          refine takeTwo (i := 1) (j := 3) (by kernel_rfl) rfl rfl (by rfl) (by rfl) (fun K hK => ?_) (fun K hK => ?_)
          · have hcv := cv32 Hbann.out
            go_simp
            clear hcv
            refine hK.out _ _ (trivial : TT _) (fun hHeld => ?_)
            clear hK K
            try simp only [Act.put, setIfInBounds_toArray, set_cons_zero, set_cons_succ]
            refine takeOne (i := 3) (by kernel_rfl) rfl (by rfl) (fun K hK => ?_)
            have hcv := cv16 Hbbn.out
            go_simp
            clear hcv
            refine hK.out _ _ (trivial : TT _) (fun hHeld => ?_)
            clear hK K
            try simp only [Act.put, setIfInBounds_toArray, set_cons_zero, set_cons_succ]
            first
            | (refine tkW (i := 4) (v := ?_) rfl rfl ?_ ?_; rotate_left; (focus (intro w hSw; (try dsimp only at hSw); go_simp; first | done | with_reducible rfl)); (simp only [Act.at, setIfInBounds_toArray, set_cons_zero, set_cons_succ]))
            | (refine tkU (i := 4) rfl rfl ?_; (simp only [Act.at, setIfInBounds_toArray, set_cons_zero, set_cons_succ]))
            refine takeOne (i := 5) (by kernel_rfl) rfl (by rfl) (fun K hK => ?_)
            go_simp
            have hbl : Below W45.heap.size W45 (W45.alloc (.cells #[.string ⟨#[120]⟩, .string (S z32), .string (S z16), .bool false] 51)) := (Below.refl _ W45).alloc (Nat.le_refl _) _
            have HB48 := Lib.hid (HB45.out.trans (hbl.mono HB45.out.size))
            have hnx : be ≠ W45.heap.size := fun e => by have := Hbe.out.lt; omega
            have hz := Has.made W45 51 #[.string ⟨#[120]⟩, .string (S z32), .string (S z16), .bool false]
            have Hbannn := Lib.hid (Hbann.out.of_alloc (.cells #[.string ⟨#[120]⟩, .string (S z32), .string (S z16), .bool false] 51))
            have Hbbnn := Lib.hid (Hbbn.out.of_alloc (.cells #[.string ⟨#[120]⟩, .string (S z32), .string (S z16), .bool false] 51))
            have Hben := Lib.hid (Hbe.out.of_alloc (.cells #[.string ⟨#[120]⟩, .string (S z32), .string (S z16), .bool false] 51))
            generalize W45.alloc (.cells #[.string ⟨#[120]⟩, .string (S z32), .string (S z16), .bool false] 51) = W48 at HB48 hz Hbannn Hbbnn Hben ⊢
            obtain ⟨bs, hbe⟩ : ∃ b, W45.heap.size = b := ⟨_, rfl⟩
            rw [hbe] at hz hnx ⊢
            have NBE : Hid (bs ≠ be) := Lib.hid (fun e => hnx e.symm)
            clear hnx
            have Gbs : Hid (w1.heap.size ≤ bs) := Lib.hid (by rw [← hbe]; exact HB45.out.size)
            have Hbs := Lib.hid hz
            clear hz hbl hbe
            refine hK.out _ _ (trivial : TT _) (fun hHeld => ?_)
            clear hK K
            try simp only [Act.put, setIfInBounds_toArray, set_cons_zero, set_cons_succ]
            first
            | (refine tkW (i := 6) (v := ?_) rfl rfl ?_ ?_; rotate_left; (focus (intro w hSw; (try dsimp only at hSw); go_simp; first | done | with_reducible rfl)); (simp only [Act.at, setIfInBounds_toArray, set_cons_zero, set_cons_succ]))
            | (refine tkU (i := 6) rfl rfl ?_; (simp only [Act.at, setIfInBounds_toArray, set_cons_zero, set_cons_succ]))
            refine takeOne (i := 8) (by kernel_rfl) rfl (by rfl) (fun K hK => ?_)
            have z0 : W48.cell? ⟨be, 0, none⟩ = some (.string ⟨#[]⟩) := Hben.out.cell 0
            have f0 : W48.frozen? ⟨be, 0, none⟩ = false := Hben.out.free 0
            have z1 : W48.cell? ⟨be, 1, none⟩ = some (.int .i64 0) := Hben.out.cell 1
            have f1 : W48.frozen? ⟨be, 1, none⟩ = false := Hben.out.free 1
            have z2 : W48.cell? ⟨be, 2, none⟩ = some (.int .i64 0) := Hben.out.cell 2
            have f2 : W48.frozen? ⟨be, 2, none⟩ = false := Hben.out.free 2
            have z3 : W48.cell? ⟨be, 3, none⟩ = some (.int .i64 0) := Hben.out.cell 3
            have f3 : W48.frozen? ⟨be, 3, none⟩ = false := Hben.out.free 3
            have z4 : W48.cell? ⟨be, 4, none⟩ = some (.slice none 0 0) := Hben.out.cell 4
            have f4 : W48.frozen? ⟨be, 4, none⟩ = false := Hben.out.free 4
            have z5 : W48.cell? ⟨be, 5, none⟩ = some (.bool false) := Hben.out.cell 5
            have f5 : W48.frozen? ⟨be, 5, none⟩ = false := Hben.out.free 5
            have z6 : W48.cell? ⟨be, 6, none⟩ = some (.slice none 0 0) := Hben.out.cell 6
            have f6 : W48.frozen? ⟨be, 6, none⟩ = false := Hben.out.free 6
            have hne : bs ≠ be := NBE.out
            go_simp
            have hset := set7 Hben.out (.string ⟨#[97]⟩) (.int .i64 0) (.int .i64 0) (.int .i64 0) (.slice (some ⟨bs, 0, none⟩) 1 1) (.bool false) (.slice none 0 0)
            have hon := only7 W48 be (.string ⟨#[97]⟩) (.int .i64 0) (.int .i64 0) (.int .i64 0) (.slice (some ⟨bs, 0, none⟩) 1 1) (.bool false) (.slice none 0 0)
            have Hbsn := Lib.hid ((Mv.of_only hon (s := [be]) (by simp)).has Hbs.out (by rw [List.mem_singleton]; exact hne))
            have HB49 := Lib.hid (hon.below HB48.out HB48.out.size Gbe.out)
            generalize (((((((W48.setCell ⟨be, 0, none⟩ (.string ⟨#[97]⟩)).setCell ⟨be, 1, none⟩ (.int .i64 0)).setCell ⟨be, 2, none⟩ (.int .i64 0)).setCell ⟨be, 3, none⟩ (.int .i64 0)).setCell ⟨be, 4, none⟩ (.slice (some ⟨bs, 0, none⟩) 1 1)).setCell ⟨be, 5, none⟩ (.bool false)).setCell ⟨be, 6, none⟩ (.slice none 0 0)) = W49 at hset hon Hbsn HB49 ⊢
            have HSET := Lib.hid hset
            clear hset hon hne z0 z1 z2 z3 z4 z5 z6 f0 f1 f2 f3 f4 f5 f6
            refine hK.out _ _ (trivial : TT _) (fun hHeld => ?_)
            clear hK K
            try simp only [Act.put, setIfInBounds_toArray, set_cons_zero, set_cons_succ]
            refine wpAnyH_done (by kernel_rfl) ?_ _
            clear hHeld
            go_wp2_with fail
            go_meet
            exact ⟨be, bs, rfl, Lib.hid ⟨HSET.out, Hbsn.out, Gbs.out, HB49.out⟩⟩
          · have hcv := cv16 Hbbn.out
            go_simp
            clear hcv
            refine hK.out _ _ (trivial : TT _) (fun hHeld => ?_)
            clear hK K
            try simp only [Act.put, setIfInBounds_toArray, set_cons_zero, set_cons_succ]
            refine takeOne (i := 1) (by kernel_rfl) rfl (by rfl) (fun K hK => ?_)
            have hcv := cv32 Hbann.out
            go_simp
            clear hcv
            refine hK.out _ _ (trivial : TT _) (fun hHeld => ?_)
            clear hK K
            try simp only [Act.put, setIfInBounds_toArray, set_cons_zero, set_cons_succ]
            first
            | (refine tkW (i := 4) (v := ?_) rfl rfl ?_ ?_; rotate_left; (focus (intro w hSw; (try dsimp only at hSw); go_simp; first | done | with_reducible rfl)); (simp only [Act.at, setIfInBounds_toArray, set_cons_zero, set_cons_succ]))
            | (refine tkU (i := 4) rfl rfl ?_; (simp only [Act.at, setIfInBounds_toArray, set_cons_zero, set_cons_succ]))
            refine takeOne (i := 5) (by kernel_rfl) rfl (by rfl) (fun K hK => ?_)
            go_simp
            have hbl : Below W45.heap.size W45 (W45.alloc (.cells #[.string ⟨#[120]⟩, .string (S z32), .string (S z16), .bool false] 51)) := (Below.refl _ W45).alloc (Nat.le_refl _) _
            have HB52 := Lib.hid (HB45.out.trans (hbl.mono HB45.out.size))
            have hnx : be ≠ W45.heap.size := fun e => by have := Hbe.out.lt; omega
            have hz := Has.made W45 51 #[.string ⟨#[120]⟩, .string (S z32), .string (S z16), .bool false]
            have Hbannn := Lib.hid (Hbann.out.of_alloc (.cells #[.string ⟨#[120]⟩, .string (S z32), .string (S z16), .bool false] 51))
            have Hbbnn := Lib.hid (Hbbn.out.of_alloc (.cells #[.string ⟨#[120]⟩, .string (S z32), .string (S z16), .bool false] 51))
            have Hben := Lib.hid (Hbe.out.of_alloc (.cells #[.string ⟨#[120]⟩, .string (S z32), .string (S z16), .bool false] 51))
            generalize W45.alloc (.cells #[.string ⟨#[120]⟩, .string (S z32), .string (S z16), .bool false] 51) = W52 at HB52 hz Hbannn Hbbnn Hben ⊢
            obtain ⟨bs, hbe⟩ : ∃ b, W45.heap.size = b := ⟨_, rfl⟩
            rw [hbe] at hz hnx ⊢
            have NBE : Hid (bs ≠ be) := Lib.hid (fun e => hnx e.symm)
            clear hnx
            have Gbs : Hid (w1.heap.size ≤ bs) := Lib.hid (by rw [← hbe]; exact HB45.out.size)
            have Hbs := Lib.hid hz
            clear hz hbl hbe
            refine hK.out _ _ (trivial : TT _) (fun hHeld => ?_)
            clear hK K
            try simp only [Act.put, setIfInBounds_toArray, set_cons_zero, set_cons_succ]
            first
            | (refine tkW (i := 6) (v := ?_) rfl rfl ?_ ?_; rotate_left; (focus (intro w hSw; (try dsimp only at hSw); go_simp; first | done | with_reducible rfl)); (simp only [Act.at, setIfInBounds_toArray, set_cons_zero, set_cons_succ]))
            | (refine tkU (i := 6) rfl rfl ?_; (simp only [Act.at, setIfInBounds_toArray, set_cons_zero, set_cons_succ]))
            refine takeOne (i := 8) (by kernel_rfl) rfl (by rfl) (fun K hK => ?_)
            have z0 : W52.cell? ⟨be, 0, none⟩ = some (.string ⟨#[]⟩) := Hben.out.cell 0
            have f0 : W52.frozen? ⟨be, 0, none⟩ = false := Hben.out.free 0
            have z1 : W52.cell? ⟨be, 1, none⟩ = some (.int .i64 0) := Hben.out.cell 1
            have f1 : W52.frozen? ⟨be, 1, none⟩ = false := Hben.out.free 1
            have z2 : W52.cell? ⟨be, 2, none⟩ = some (.int .i64 0) := Hben.out.cell 2
            have f2 : W52.frozen? ⟨be, 2, none⟩ = false := Hben.out.free 2
            have z3 : W52.cell? ⟨be, 3, none⟩ = some (.int .i64 0) := Hben.out.cell 3
            have f3 : W52.frozen? ⟨be, 3, none⟩ = false := Hben.out.free 3
            have z4 : W52.cell? ⟨be, 4, none⟩ = some (.slice none 0 0) := Hben.out.cell 4
            have f4 : W52.frozen? ⟨be, 4, none⟩ = false := Hben.out.free 4
            have z5 : W52.cell? ⟨be, 5, none⟩ = some (.bool false) := Hben.out.cell 5
            have f5 : W52.frozen? ⟨be, 5, none⟩ = false := Hben.out.free 5
            have z6 : W52.cell? ⟨be, 6, none⟩ = some (.slice none 0 0) := Hben.out.cell 6
            have f6 : W52.frozen? ⟨be, 6, none⟩ = false := Hben.out.free 6
            have hne : bs ≠ be := NBE.out
            go_simp
            have hset := set7 Hben.out (.string ⟨#[97]⟩) (.int .i64 0) (.int .i64 0) (.int .i64 0) (.slice (some ⟨bs, 0, none⟩) 1 1) (.bool false) (.slice none 0 0)
            have hon := only7 W52 be (.string ⟨#[97]⟩) (.int .i64 0) (.int .i64 0) (.int .i64 0) (.slice (some ⟨bs, 0, none⟩) 1 1) (.bool false) (.slice none 0 0)
            have Hbsn := Lib.hid ((Mv.of_only hon (s := [be]) (by simp)).has Hbs.out (by rw [List.mem_singleton]; exact hne))
            have HB53 := Lib.hid (hon.below HB52.out HB52.out.size Gbe.out)
            generalize (((((((W52.setCell ⟨be, 0, none⟩ (.string ⟨#[97]⟩)).setCell ⟨be, 1, none⟩ (.int .i64 0)).setCell ⟨be, 2, none⟩ (.int .i64 0)).setCell ⟨be, 3, none⟩ (.int .i64 0)).setCell ⟨be, 4, none⟩ (.slice (some ⟨bs, 0, none⟩) 1 1)).setCell ⟨be, 5, none⟩ (.bool false)).setCell ⟨be, 6, none⟩ (.slice none 0 0)) = W53 at hset hon Hbsn HB53 ⊢
            have HSET := Lib.hid hset
            clear hset hon hne z0 z1 z2 z3 z4 z5 z6 f0 f1 f2 f3 f4 f5 f6
            refine hK.out _ _ (trivial : TT _) (fun hHeld => ?_)
            clear hK K
            try simp only [Act.put, setIfInBounds_toArray, set_cons_zero, set_cons_succ]
            refine wpAnyH_done (by kernel_rfl) ?_ _
            clear hHeld
            go_wp2_with fail
            go_meet
            exact ⟨be, bs, rfl, Lib.hid ⟨HSET.out, Hbsn.out, Gbs.out, HB53.out⟩⟩
      · go_simp
        have hbl : Below W1.heap.size W1 (W1.alloc (.cells #[.string ⟨#[]⟩, .int .i64 0, .int .i64 0, .int .i64 0, .slice none 0 0, .bool false, .slice none 0 0] 33)) := (Below.refl _ W1).alloc (Nat.le_refl _) _
        have HB54 := Lib.hid (HB1.out.trans (hbl.mono HB1.out.size))
        have hz := Has.made W1 33 #[.string ⟨#[]⟩, .int .i64 0, .int .i64 0, .int .i64 0, .slice none 0 0, .bool false, .slice none 0 0]
        have Hban := Lib.hid (Hba.out.of_alloc (.cells #[.string ⟨#[]⟩, .int .i64 0, .int .i64 0, .int .i64 0, .slice none 0 0, .bool false, .slice none 0 0] 33))
        generalize W1.alloc (.cells #[.string ⟨#[]⟩, .int .i64 0, .int .i64 0, .int .i64 0, .slice none 0 0, .bool false, .slice none 0 0] 33) = W54 at HB54 hz Hban ⊢
        obtain ⟨be, hbe⟩ : ∃ b, W1.heap.size = b := ⟨_, rfl⟩
        rw [hbe] at hz ⊢
        have Gbe : Hid (w1.heap.size ≤ be) := Lib.hid (by rw [← hbe]; exact HB1.out.size)
        have Hbe := Lib.hid hz
        clear hz hbl hbe
        refine hK.out _ _ (trivial : TT _) (fun hHeld => ?_)
        clear hK K
        try simp only [Act.put, setIfInBounds_toArray, set_cons_zero, set_cons_succ]
        refine takeTwo (i := 1) (j := 2) (by kernel_rfl) rfl rfl (by rfl) (by rfl) (fun K hK => ?_) (fun K hK => ?_)
        · have hcv := cv32 Hban.out
          go_simp
          clear hcv
          refine hK.out _ _ (trivial : TT _) (fun hHeld => ?_)
          clear hK K
          try simp only [Act.put, setIfInBounds_toArray, set_cons_zero, set_cons_succ]
          refine takeOne (i := 2) (by kernel_rfl) rfl (by rfl) (fun K hK => ?_)
          go_simp
          have hbl : Below W54.heap.size W54 (W54.alloc (.cells (fillc 0 16 0) 5)) := (Below.refl _ W54).alloc (Nat.le_refl _) _
          have HB56 := Lib.hid (HB54.out.trans (hbl.mono HB54.out.size))
          have hz := Has.made W54 5 (fillc 0 16 0)
          have Hbann := Lib.hid (Hban.out.of_alloc (.cells (fillc 0 16 0) 5))
          have Hben := Lib.hid (Hbe.out.of_alloc (.cells (fillc 0 16 0) 5))
          generalize W54.alloc (.cells (fillc 0 16 0) 5) = W56 at HB56 hz Hbann Hben ⊢
          obtain ⟨bb, hbe⟩ : ∃ b, W54.heap.size = b := ⟨_, rfl⟩
          rw [hbe] at hz ⊢
          have Gbb : Hid (w1.heap.size ≤ bb) := Lib.hid (by rw [← hbe]; exact HB54.out.size)
          have Hbb := Lib.hid hz
          clear hz hbl hbe
          refine hK.out _ _ (trivial : TT _) (fun hHeld => ?_)
          clear hK K
          try simp only [Act.put, setIfInBounds_toArray, set_cons_zero, set_cons_succ]
          refine takeOne (i := 3) (by kernel_rfl) rfl (by rfl) (fun K hK => ?_)
          have hcv := cv16 Hbb.out
          go_simp
          clear hcv
          refine hK.out _ _ (trivial : TT _) (fun hHeld => ?_)
          clear hK K
          try simp only [Act.put, setIfInBounds_toArray, set_cons_zero, set_cons_succ]
          first
          | (refine tkW (i := 4) (v := ?_) rfl rfl ?_ ?_; rotate_left; (focus (intro w hSw; (try dsimp only at hSw); go_simp; first | done | with_reducible rfl)); (simp only [Act.at, setIfInBounds_toArray, set_cons_zero, set_cons_succ]))
          | (refine tkU (i := 4) rfl rfl ?_; (simp only [Act.at, setIfInBounds_toArray, set_cons_zero, set_cons_succ]))
          refine takeOne (i := 5) (by kernel_rfl) rfl (by rfl) (fun K hK => ?_)
          go_simp
          have hbl : Below W56.heap.size W56 (W56.alloc (.cells #[.string ⟨#[120]⟩, .string (S z32), .string (S z16), .bool false] 51)) := (Below.refl _ W56).alloc (Nat.le_refl _) _
          have HB58 := Lib.hid (HB56.out.trans (hbl.mono HB56.out.size))
          have hnx : be ≠ W56.heap.size := fun e => by have := Hben.out.lt; omega
          have hz := Has.made W56 51 #[.string ⟨#[120]⟩, .string (S z32), .string (S z16), .bool false]
          have Hbannn := Lib.hid (Hbann.out.of_alloc (.cells #[.string ⟨#[120]⟩, .string (S z32), .string (S z16), .bool false] 51))
          have Hbenn := Lib.hid (Hben.out.of_alloc (.cells #[.string ⟨#[120]⟩, .string (S z32), .string (S z16), .bool false] 51))
          have Hbbn := Lib.hid (Hbb.out.of_alloc (.cells #[.string ⟨#[120]⟩, .string (S z32), .string (S z16), .bool false] 51))
          generalize W56.alloc (.cells #[.string ⟨#[120]⟩, .string (S z32), .string (S z16), .bool false] 51) = W58 at HB58 hz Hbannn Hbenn Hbbn ⊢
          obtain ⟨bs, hbe⟩ : ∃ b, W56.heap.size = b := ⟨_, rfl⟩
          rw [hbe] at hz hnx ⊢
          have NBE : Hid (bs ≠ be) := Lib.hid (fun e => hnx e.symm)
          clear hnx
          have Gbs : Hid (w1.heap.size ≤ bs) := Lib.hid (by rw [← hbe]; exact HB56.out.size)
          have Hbs := Lib.hid hz
          clear hz hbl hbe
          refine hK.out _ _ (trivial : TT _) (fun hHeld => ?_)
          clear hK K
          try simp only [Act.put, setIfInBounds_toArray, set_cons_zero, set_cons_succ]
          first
          | (refine tkW (i := 6) (v := ?_) rfl rfl ?_ ?_; rotate_left; (focus (intro w hSw; (try dsimp only at hSw); go_simp; first | done | with_reducible rfl)); (simp only [Act.at, setIfInBounds_toArray, set_cons_zero, set_cons_succ]))
          | (refine tkU (i := 6) rfl rfl ?_; (simp only [Act.at, setIfInBounds_toArray, set_cons_zero, set_cons_succ]))
          refine takeOne (i := 8) (by kernel_rfl) rfl (by rfl) (fun K hK => ?_)
          have z0 : W58.cell? ⟨be, 0, none⟩ = some (.string ⟨#[]⟩) := Hbenn.out.cell 0
          have f0 : W58.frozen? ⟨be, 0, none⟩ = false := Hbenn.out.free 0
          have z1 : W58.cell? ⟨be, 1, none⟩ = some (.int .i64 0) := Hbenn.out.cell 1
          have f1 : W58.frozen? ⟨be, 1, none⟩ = false := Hbenn.out.free 1
          have z2 : W58.cell? ⟨be, 2, none⟩ = some (.int .i64 0) := Hbenn.out.cell 2
          have f2 : W58.frozen? ⟨be, 2, none⟩ = false := Hbenn.out.free 2
          have z3 : W58.cell? ⟨be, 3, none⟩ = some (.int .i64 0) := Hbenn.out.cell 3
          have f3 : W58.frozen? ⟨be, 3, none⟩ = false := Hbenn.out.free 3
          have z4 : W58.cell? ⟨be, 4, none⟩ = some (.slice none 0 0) := Hbenn.out.cell 4
          have f4 : W58.frozen? ⟨be, 4, none⟩ = false := Hbenn.out.free 4
          have z5 : W58.cell? ⟨be, 5, none⟩ = some (.bool false) := Hbenn.out.cell 5
          have f5 : W58.frozen? ⟨be, 5, none⟩ = false := Hbenn.out.free 5
          have z6 : W58.cell? ⟨be, 6, none⟩ = some (.slice none 0 0) := Hbenn.out.cell 6
          have f6 : W58.frozen? ⟨be, 6, none⟩ = false := Hbenn.out.free 6
          have hne : bs ≠ be := NBE.out
          go_simp
          have hset := set7 Hbenn.out (.string ⟨#[97]⟩) (.int .i64 0) (.int .i64 0) (.int .i64 0) (.slice (some ⟨bs, 0, none⟩) 1 1) (.bool false) (.slice none 0 0)
          have hon := only7 W58 be (.string ⟨#[97]⟩) (.int .i64 0) (.int .i64 0) (.int .i64 0) (.slice (some ⟨bs, 0, none⟩) 1 1) (.bool false) (.slice none 0 0)
          have Hbsn := Lib.hid ((Mv.of_only hon (s := [be]) (by simp)).has Hbs.out (by rw [List.mem_singleton]; exact hne))
          have HB59 := Lib.hid (hon.below HB58.out HB58.out.size Gbe.out)
          generalize (((((((W58.setCell ⟨be, 0, none⟩ (.string ⟨#[97]⟩)).setCell ⟨be, 1, none⟩ (.int .i64 0)).setCell ⟨be, 2, none⟩ (.int .i64 0)).setCell ⟨be, 3, none⟩ (.int .i64 0)).setCell ⟨be, 4, none⟩ (.slice (some ⟨bs, 0, none⟩) 1 1)).setCell ⟨be, 5, none⟩ (.bool false)).setCell ⟨be, 6, none⟩ (.slice none 0 0)) = W59 at hset hon Hbsn HB59 ⊢
          have HSET := Lib.hid hset
          clear hset hon hne z0 z1 z2 z3 z4 z5 z6 f0 f1 f2 f3 f4 f5 f6
          refine hK.out _ _ (trivial : TT _) (fun hHeld => ?_)
          clear hK K
          try simp only [Act.put, setIfInBounds_toArray, set_cons_zero, set_cons_succ]
          refine wpAnyH_done (by kernel_rfl) ?_ _
          clear hHeld
          go_wp2_with fail
          go_meet
          exact ⟨be, bs, rfl, Lib.hid ⟨HSET.out, Hbsn.out, Gbs.out, HB59.out⟩⟩
        · go_simp
          have hbl : Below W54.heap.size W54 (W54.alloc (.cells (fillc 0 16 0) 5)) := (Below.refl _ W54).alloc (Nat.le_refl _) _
          have HB60 := Lib.hid (HB54.out.trans (hbl.mono HB54.out.size))
          have hz := Has.made W54 5 (fillc 0 16 0)
          have Hbann := Lib.hid (Hban.out.of_alloc (.cells (fillc 0 16 0) 5))
          have Hben := Lib.hid (Hbe.out.of_alloc (.cells (fillc 0 16 0) 5))
          generalize W54.alloc (.cells (fillc 0 16 0) 5) = W60 at HB60 hz Hbann Hben ⊢
          obtain ⟨bb, hbe⟩ : ∃ b, W54.heap.size = b := ⟨_, rfl⟩
          rw [hbe] at hz ⊢
          have Gbb : Hid (w1.heap.size ≤ bb) := Lib.hid (by rw [← hbe]; exact HB54.out.size)
          have Hbb := Lib.hid hz
          clear hz hbl hbe
          refine hK.out _ _ (trivial : TT _) (fun hHeld => ?_)
          clear hK K
          try simp only [Act.put, setIfInBounds_toArray, set_cons_zero, set_cons_succ]
          refine takeTwo (i := 1) (j := 3) (by kernel_rfl) rfl rfl (by rfl) (by rfl) (fun K hK => ?_) (fun K hK => ?_)
          · have hcv := cv32 Hbann.out
            go_simp
            clear hcv
            refine hK.out _ _ (trivial : TT _) (fun hHeld => ?_)
            clear hK K
            try simp only [Act.put, setIfInBounds_toArray, set_cons_zero, set_cons_succ]
            refine takeOne (i := 3) (by kernel_rfl) rfl (by rfl) (fun K hK => ?_)
            have hcv := cv16 Hbb.out
            go_simp
            clear hcv
            refine hK.out _ _ (trivial : TT _) (fun hHeld => ?_)
            clear hK K
            try simp only [Act.put, setIfInBounds_toArray, set_cons_zero, set_cons_succ]
            first
            | (refine tkW (i := 4) (v := ?_) rfl rfl ?_ ?_; rotate_left; (focus (intro w hSw; (try dsimp only at hSw); go_simp; first | done | with_reducible rfl)); (simp only [Act.at, setIfInBounds_toArray, set_cons_zero, set_cons_succ]))
            | (refine tkU (i := 4) rfl rfl ?_; (simp only [Act.at, setIfInBounds_toArray, set_cons_zero, set_cons_succ]))
            refine takeOne (i := 5) (by kernel_rfl) rfl (by rfl) (fun K hK => ?_)
            go_simp
            have hbl : Below W60.heap.size W60 (W60.alloc (.cells #[.string ⟨#[120]⟩, .string (S z32), .string (S z16), .bool false] 51)) := (Below.refl _ W60).alloc (Nat.le_refl _) _
            have HB63 := Lib.hid (HB60.out.trans (hbl.mono HB60.out.size))
            have hnx : be ≠ W60.heap.size := fun e => by have := Hben.out.lt; omega
            have hz := Has.made W60 51 #[.string ⟨#[120]⟩, .string (S z32), .string (S z16), .bool false]
            have Hbannn := Lib.hid (Hbann.out.of_alloc (.cells #[.string ⟨#[120]⟩, .string (S z32), .string (S z16), .bool false] 51))
            have Hbenn := Lib.hid (Hben.out.of_alloc (.cells #[.string ⟨#[120]⟩, .string (S z32), .string (S z16), .bool false] 51))
            have Hbbn := Lib.hid (Hbb.out.of_alloc (.cells #[.string ⟨#[120]⟩, .string (S z32), .string (S z16), .bool false] 51))
            generalize W60.alloc (.cells #[.string ⟨#[120]⟩, .string (S z32), .string (S z16), .bool false] 51) = W63 at HB63 hz Hbannn Hbenn Hbbn ⊢
            obtain ⟨bs, hbe⟩ : ∃ b, W60.heap.size = b := ⟨_, rfl⟩
            rw [hbe] at hz hnx ⊢
            have NBE : Hid (bs ≠ be) := Lib.hid (fun e => hnx e.symm)
            clear hnx
            have Gbs : Hid (w1.heap.size ≤ bs) := Lib.hid (by rw [← hbe]; exact HB60.out.size)
            have Hbs := Lib.hid hz
            clear hz hbl hbe
            refine hK.out _ _ (trivial : TT _) (fun hHeld => ?_)
            clear hK K
            try simp only [Act.put, setIfInBounds_toArray, set_cons_zero, set_cons_succ]
            first
            | (refine tkW (i := 6) (v := ?_) rfl rfl ?_ ?_; rotate_left; (focus (intro w hSw; (try dsimp only at hSw); go_simp; first | done | with_reducible rfl)); (simp only [Act.at, setIfInBounds_toArray, set_cons_zero, set_cons_succ]))
            | (refine tkU (i := 6) rfl rfl ?_; (simp only [Act.at, setIfInBounds_toArray, set_cons_zero, set_cons_succ]))
            refine takeOne (i := 8) (by kernel_rfl) rfl (by rfl) (fun K hK => ?_)
            have z0 : W63.cell? ⟨be, 0, none⟩ = some (.string ⟨#[]⟩) := Hbenn.out.cell 0
            have f0 : W63.frozen? ⟨be, 0, none⟩ = false := Hbenn.out.free 0
            have z1 : W63.cell? ⟨be, 1, none⟩ = some (.int .i64 0) := Hbenn.out.cell 1
            have f1 : W63.frozen? ⟨be, 1, none⟩ = false := Hbenn.out.free 1
            have z2 : W63.cell? ⟨be, 2, none⟩ = some (.int .i64 0) := Hbenn.out.cell 2
            have f2 : W63.frozen? ⟨be, 2, none⟩ = false := Hbenn.out.free 2
            have z3 : W63.cell? ⟨be, 3, none⟩ = some (.int .i64 0) := Hbenn.out.cell 3
            have f3 : W63.frozen? ⟨be, 3, none⟩ = false := Hbenn.out.free 3
            have z4 : W63.cell? ⟨be, 4, none⟩ = some (.slice none 0 0) := Hbenn.out.cell 4
            have f4 : W63.frozen? ⟨be, 4, none⟩ = false := Hbenn.out.free 4
            have z5 : W63.cell? ⟨be, 5, none⟩ = some (.bool false) := Hbenn.out.cell 5
            have f5 : W63.frozen? ⟨be, 5, none⟩ = false := Hbenn.out.free 5
            have z6 : W63.cell? ⟨be, 6, none⟩ = some (.slice none 0 0) := Hbenn.out.cell 6
            have f6 : W63.frozen? ⟨be, 6, none⟩ = false := Hbenn.out.free 6
            have hne : bs ≠ be := NBE.out
            go_simp
            have hset := set7 Hbenn.out (.string ⟨#[97]⟩) (.int .i64 0) (.int .i64 0) (.int .i64 0) (.slice (some ⟨bs, 0, none⟩) 1 1) (.bool false) (.slice none 0 0)
            have hon := only7 W63 be (.string ⟨#[97]⟩) (.int .i64 0) (.int .i64 0) (.int .i64 0) (.slice (some ⟨bs, 0, none⟩) 1 1) (.bool false) (.slice none 0 0)
            have Hbsn := Lib.hid ((Mv.of_only hon (s := [be]) (by simp)).has Hbs.out (by rw [List.mem_singleton]; exact hne))
            have HB64 := Lib.hid (hon.below HB63.out HB63.out.size Gbe.out)
            generalize (((((((W63.setCell ⟨be, 0, none⟩ (.string ⟨#[97]⟩)).setCell ⟨be, 1, none⟩ (.int .i64 0)).setCell ⟨be, 2, none⟩ (.int .i64 0)).setCell ⟨be, 3, none⟩ (.int .i64 0)).setCell ⟨be, 4, none⟩ (.slice (some ⟨bs, 0, none⟩) 1 1)).setCell ⟨be, 5, none⟩ (.bool false)).setCell ⟨be, 6, none⟩ (.slice none 0 0)) = W64 at hset hon Hbsn HB64 ⊢
            have HSET := Lib.hid hset
            clear hset hon hne z0 z1 z2 z3 z4 z5 z6 f0 f1 f2 f3 f4 f5 f6
            refine hK.out _ _ (trivial : TT _) (fun hHeld => ?_)
            clear hK K
            try simp only [Act.put, setIfInBounds_toArray, set_cons_zero, set_cons_succ]
            refine wpAnyH_done (by kernel_rfl) ?_ _
            clear hHeld
            go_wp2_with fail
            go_meet
            exact ⟨be, bs, rfl, Lib.hid ⟨HSET.out, Hbsn.out, Gbs.out, HB64.out⟩⟩
          · have hcv := cv16 Hbb.out
            go_simp
            clear hcv
            refine hK.out _ _ (trivial : TT _) (fun hHeld => ?_)
            clear hK K
            try simp only [Act.put, setIfInBounds_toArray, set_cons_zero, set_cons_succ]
            refine takeOne (i := 1) (by kernel_rfl) rfl (by rfl) (fun K hK => ?_)
            have hcv := cv32 Hbann.out
            go_simp
            clear hcv
            refine hK.out _ _ (trivial : TT _) (fun hHeld => ?_)
            clear hK K
            try simp only [Act.put, setIfInBounds_toArray, set_cons_zero, set_cons_succ]
            first
            | (refine tkW (i := 4) (v := ?_) rfl rfl ?_ ?_; rotate_left; (focus (intro w hSw; (try dsimp only at hSw); go_simp; first | done | with_reducible rfl)); (simp only [Act.at, setIfInBounds_toArray, set_cons_zero, set_cons_succ]))
            | (refine tkU (i := 4) rfl rfl ?_; (simp only [Act.at, setIfInBounds_toArray, set_cons_zero, set_cons_succ]))
            refine takeOne (i := 5) (by kernel_rfl) rfl (by rfl) (fun K hK => ?_)
            go_simp
            have hbl : Below W60.heap.size W60 (W60.alloc (.cells #[.string ⟨#[120]⟩, .string (S z32), .string (S z16), .bool false] 51)) := (Below.refl _ W60).alloc (Nat.le_refl _) _
            have HB67 := Lib.hid (HB60.out.trans (hbl.mono HB60.out.size))
            have hnx : be ≠ W60.heap.size := fun e => by have := Hben.out.lt; omega
            have hz := Has.made W60 51 #[.string ⟨#[120]⟩, .string (S z32), .string (S z16), .bool false]
            have Hbannn := Lib.hid (Hbann.out.of_alloc (.cells #[.string ⟨#[120]⟩, .string (S z32), .string (S z16), .bool false] 51))
            have Hbenn := Lib.hid (Hben.out.of_alloc (.cells #[.string ⟨#[120]⟩, .string (S z32), .string (S z16), .bool false] 51))
            have Hbbn := Lib.hid (Hbb.out.of_alloc (.cells #[.string ⟨#[120]⟩, .string (S z32), .string (S z16), .bool false] 51))
            generalize W60.alloc (.cells #[.string ⟨#[120]⟩, .string (S z32), .string (S z16), .bool false] 51) = W67 at HB67 hz Hbannn Hbenn Hbbn ⊢
            obtain ⟨bs, hbe⟩ : ∃ b, W60.heap.size = b := ⟨_, rfl⟩
            rw [hbe] at hz hnx ⊢
            have NBE : Hid (bs ≠ be) := Lib.hid (fun e => hnx e.symm)
            clear hnx
            have Gbs : Hid (w1.heap.size ≤ bs) := Lib.hid (by rw [← hbe]; exact HB60.out.size)
            have Hbs := Lib.hid hz
            clear hz hbl hbe
            refine hK.out _ _ (trivial : TT _) (fun hHeld => ?_)
            clear hK K
            try simp only [Act.put, setIfInBounds_toArray, set_cons_zero, set_cons_succ]
            first
            | (refine tkW (i := 6) (v := ?_) rfl rfl ?_ ?_; rotate_left; (focus (intro w hSw; (try dsimp only at hSw); go_simp; first | done | with_reducible rfl)); (simp only [Act.at, setIfInBounds_toArray, set_cons_zero, set_cons_succ]))
            | (refine tkU (i := 6) rfl rfl ?_; (simp only [Act.at, setIfInBounds_toArray, set_cons_zero, set_cons_succ]))
            refine takeOne (i := 8) (by kernel_rfl) rfl (by rfl) (fun K hK => ?_)
            have z0 : W67.cell? ⟨be, 0, none⟩ = some (.string ⟨#[]⟩) := Hbenn.out.cell 0
            have f0 : W67.frozen? ⟨be, 0, none⟩ = false := Hbenn.out.free 0
            have z1 : W67.cell? ⟨be, 1, none⟩ = some (.int .i64 0) := Hbenn.out.cell 1
            have f1 : W67.frozen? ⟨be, 1, none⟩ = false := Hbenn.out.free 1
            have z2 : W67.cell? ⟨be, 2, none⟩ = some (.int .i64 0) := Hbenn.out.cell 2
            have f2 : W67.frozen? ⟨be, 2, none⟩ = false := Hbenn.out.free 2
            have z3 : W67.cell? ⟨be, 3, none⟩ = some (.int .i64 0) := Hbenn.out.cell 3
            have f3 : W67.frozen? ⟨be, 3, none⟩ = false := Hbenn.out.free 3
            have z4 : W67.cell? ⟨be, 4, none⟩ = some (.slice none 0 0) := Hbenn.out.cell 4
            have f4 : W67.frozen? ⟨be, 4, none⟩ = false := Hbenn.out.free 4
            have z5 : W67.cell? ⟨be, 5, none⟩ = some (.bool false) := Hbenn.out.cell 5
            have f5 : W67.frozen? ⟨be, 5, none⟩ = false := Hbenn.out.free 5
            have z6 : W67.cell? ⟨be, 6, none⟩ = some (.slice none 0 0) := Hbenn.out.cell 6
            have f6 : W67.frozen? ⟨be, 6, none⟩ = false := Hbenn.out.free 6
            have hne : bs ≠ be := NBE.out
            go_simp
            have hset := set7 Hbenn.out (.string ⟨#[97]⟩) (.int .i64 0) (.int .i64 0) (.int .i64 0) (.slice (some ⟨bs, 0, none⟩) 1 1) (.bool false) (.slice none 0 0)
            have hon := only7 W67 be (.string ⟨#[97]⟩) (.int .i64 0) (.int .i64 0) (.int .i64 0) (.slice (some ⟨bs, 0, none⟩) 1 1) (.bool false) (.slice none 0 0)
            have Hbsn := Lib.hid ((Mv.of_only hon (s := [be]) (by simp)).has Hbs.out (by rw [List.mem_singleton]; exact hne))
            have HB68 := Lib.hid (hon.below HB67.out HB67.out.size Gbe.out)
            generalize (((((((W67.setCell ⟨be, 0, none⟩ (.string ⟨#[97]⟩)).setCell ⟨be, 1, none⟩ (.int .i64 0)).setCell ⟨be, 2, none⟩ (.int .i64 0)).setCell ⟨be, 3, none⟩ (.int .i64 0)).setCell ⟨be, 4, none⟩ (.slice (some ⟨bs, 0, none⟩) 1 1)).setCell ⟨be, 5, none⟩ (.bool false)).setCell ⟨be, 6, none⟩ (.slice none 0 0)) = W68 at hset hon Hbsn HB68 ⊢
            have HSET := Lib.hid hset
            clear hset hon hne z0 z1 z2 z3 z4 z5 z6 f0 f1 f2 f3 f4 f5 f6
            refine hK.out _ _ (trivial : TT _) (fun hHeld => ?_)
            clear hK K
            try simp only [Act.put, setIfInBounds_toArray, set_cons_zero, set_cons_succ]
            refine wpAnyH_done (by kernel_rfl) ?_ _
            clear hHeld
            go_wp2_with fail
            go_meet
            exact ⟨be, bs, rfl, Lib.hid ⟨HSET.out, Hbsn.out, Gbs.out, HB68.out⟩⟩
    · go_simp
      have hbl : Below wd.heap.size wd (wd.alloc (.cells (fillc 0 16 0) 5)) := (Below.refl _ wd).alloc (Nat.le_refl _) _
      have HB69 := Lib.hid (HBD.out.trans (hbl.mono HBD.out.size))
      have hz := Has.made wd 5 (fillc 0 16 0)
      generalize wd.alloc (.cells (fillc 0 16 0) 5) = W69 at HB69 hz  ⊢
      obtain ⟨bb, hbe⟩ : ∃ b, wd.heap.size = b := ⟨_, rfl⟩
      rw [hbe] at hz ⊢
      have Gbb : Hid (w1.heap.size ≤ bb) := Lib.hid (by rw [← hbe]; exact HBD.out.size)
      have Hbb := Lib.hid hz
      clear hz hbl hbe
      refine hK.out _ _ (trivial : TT _) (fun hHeld => ?_)
      clear hK K
      try simp only [Act.put, setIfInBounds_toArray, set_cons_zero, set_cons_succ]
      refine takeThree (i := 0) (j := 3) (k := 7) (by kernel_rfl) rfl rfl rfl (by rfl) (by rfl) (by rfl) (fun K hK => ?_) (fun K hK => ?_) (fun K hK => ?_)
      · go_simp
        have hbl : Below W69.heap.size W69 (W69.alloc (.cells (fillc 0 32 0) 5)) := (Below.refl _ W69).alloc (Nat.le_refl _) _
        have HB70 := Lib.hid (HB69.out.trans (hbl.mono HB69.out.size))
        have hz := Has.made W69 5 (fillc 0 32 0)
        have Hbbn := Lib.hid (Hbb.out.of_alloc (.cells (fillc 0 32 0) 5))
        generalize W69.alloc (.cells (fillc 0 32 0) 5) = W70 at HB70 hz Hbbn ⊢
        obtain ⟨ba, hbe⟩ : ∃ b, W69.heap.size = b := ⟨_, rfl⟩
        rw [hbe] at hz ⊢
        have Gba : Hid (w1.heap.size ≤ ba) := Lib.hid (by rw [← hbe]; exact HB69.out.size)
        have Hba := Lib.hid hz
        clear hz hbl hbe
        refine hK.out _ _ (trivial : TT _) (fun hHeld => ?_)
        clear hK K
        try simp only [Act.put, setIfInBounds_toArray, set_cons_zero, set_cons_succ]
        refine takeThree (i := 1) (j := 3) (k := 7) (by kernel_rfl) rfl rfl rfl (by rfl) (by rfl) (by rfl) (fun K hK => ?_) (fun K hK => ?_) (fun K hK => ?_)
        · have hcv := cv32 Hba.out
          go_simp
          clear hcv
          refine hK.out _ _ (trivial : TT _) (fun hHeld => ?_)
          clear hK K
          try simp only [Act.put, setIfInBounds_toArray, set_cons_zero, set_cons_succ]
          refine takeTwo (i := 3) (j := 7) (by kernel_rfl) rfl rfl (by rfl) (by rfl) (fun K hK => ?_) (fun K hK => ?_)
          · have hcv := cv16 Hbbn.out
            go_simp
            clear hcv
            refine hK.out _ _ (trivial : TT _) (fun hHeld => ?_)
            clear hK K
            try simp only [Act.put, setIfInBounds_toArray, set_cons_zero, set_cons_succ]
            first
            | (refine tkW (i := 4) (v := ?_) rfl rfl ?_ ?_; rotate_left; (focus (intro w hSw; (try dsimp only at hSw); go_simp; first | done | with_reducible rfl)); (simp only [Act.at, setIfInBounds_toArray, set_cons_zero, set_cons_succ]))
            | (refine tkU (i := 4) rfl rfl ?_; (simp only [Act.at, setIfInBounds_toArray, set_cons_zero, set_cons_succ]))
            refine takeTwo (i := 5) (j := 7) (by kernel_rfl) rfl rfl (by rfl) (by rfl) (fun K hK => ?_) (fun K hK => ?_)
            · go_simp
              have hbl : Below W70.heap.size W70 (W70.alloc (.cells #[.string ⟨#[120]⟩, .string (S z32), .string (S z16), .bool false] 51)) := (Below.refl _ W70).alloc (Nat.le_refl _) _
              have HB73 := Lib.hid (HB70.out.trans (hbl.mono HB70.out.size))
              have hz := Has.made W70 51 #[.string ⟨#[120]⟩, .string (S z32), .string (S z16), .bool false]
              have Hbbnn := Lib.hid (Hbbn.out.of_alloc (.cells #[.string ⟨#[120]⟩, .string (S z32), .string (S z16), .bool false] 51))
              have Hban := Lib.hid (Hba.out.of_alloc (.cells #[.string ⟨#[120]⟩, .string (S z32), .string (S z16), .bool false] 51))
              generalize W70.alloc (.cells #[.string ⟨#[120]⟩, .string (S z32), .string (S z16), .bool false] 51) = W73 at HB73 hz Hbbnn Hban ⊢
              obtain ⟨bs, hbe⟩ : ∃ b, W70.heap.size = b := ⟨_, rfl⟩
              rw [hbe] at hz ⊢
              have Gbs : Hid (w1.heap.size ≤ bs) := Lib.hid (by rw [← hbe]; exact HB70.out.size)
              have Hbs := Lib.hid hz
              clear hz hbl hbe
              refine hK.out _ _ (trivial : TT _) (fun hHeld => ?_)
              clear hK K
              try simp only [Act.put, setIfInBounds_toArray, set_cons_zero, set_cons_succ]
              first
              | (refine tkW (i := 6) (v := ?_) rfl rfl ?_ ?_; rotate_left; (focus (intro w hSw; (try dsimp only at hSw); go_simp; first | done | with_reducible rfl)); (simp only [Act.at, setIfInBounds_toArray, set_cons_zero, set_cons_succ]))
              | (refine tkU (i := 6) rfl rfl ?_; (simp only [Act.at, setIfInBounds_toArray, set_cons_zero, set_cons_succ]))
              refine takeOne (i := 7) (by kernel_rfl) rfl (by rfl) (fun K hK => ?_)
              go_simp
              have hbl : Below W73.heap.size W73 (W73.alloc (.cells #[.string ⟨#[]⟩, .int .i64 0, .int .i64 0, .int .i64 0, .slice none 0 0, .bool false, .slice none 0 0] 33)) := (Below.refl _ W73).alloc (Nat.le_refl _) _
              have HB74 := Lib.hid (HB73.out.trans (hbl.mono HB73.out.size))
              have hnx : bs ≠ W73.heap.size := fun e => by have := Hbs.out.lt; omega
              have hz := Has.made W73 33 #[.string ⟨#[]⟩, .int .i64 0, .int .i64 0, .int .i64 0, .slice none 0 0, .bool false, .slice none 0 0]
              have Hbbnnn := Lib.hid (Hbbnn.out.of_alloc (.cells #[.string ⟨#[]⟩, .int .i64 0, .int .i64 0, .int .i64 0, .slice none 0 0, .bool false, .slice none 0 0] 33))
              have Hbann := Lib.hid (Hban.out.of_alloc (.cells #[.string ⟨#[]⟩, .int .i64 0, .int .i64 0, .int .i64 0, .slice none 0 0, .bool false, .slice none 0 0] 33))
              have Hbsn := Lib.hid (Hbs.out.of_alloc (.cells #[.string ⟨#[]⟩, .int .i64 0, .int .i64 0, .int .i64 0, .slice none 0 0, .bool false, .slice none 0 0] 33))
              generalize W73.alloc (.cells #[.string ⟨#[]⟩, .int .i64 0, .int .i64 0, .int .i64 0, .slice none 0 0, .bool false, .slice none 0 0] 33) = W74 at HB74 hz Hbbnnn Hbann Hbsn ⊢
              obtain ⟨be, hbe⟩ : ∃ b, W73.heap.size = b := ⟨_, rfl⟩
              rw [hbe] at hz hnx ⊢
              have NBE : Hid (bs ≠ be) := Lib.hid hnx
              clear hnx
              have Gbe : Hid (w1.heap.size ≤ be) := Lib.hid (by rw [← hbe]; exact HB73.out.size)
              have Hbe := Lib.hid hz
              clear hz hbl hbe
              refine hK.out _ _ (trivial : TT _) (fun hHeld => ?_)
              clear hK K
              try simp only [Act.put, setIfInBounds_toArray, set_cons_zero, set_cons_succ]
              refine takeOne (i := 8) (by kernel_rfl) rfl (by rfl) (fun K hK => ?_)
              have z0 : W74.cell? ⟨be, 0, none⟩ = some (.string ⟨#[]⟩) := Hbe.out.cell 0
              have f0 : W74.frozen? ⟨be, 0, none⟩ = false := Hbe.out.free 0
              have z1 : W74.cell? ⟨be, 1, none⟩ = some (.int .i64 0) := Hbe.out.cell 1
              have f1 : W74.frozen? ⟨be, 1, none⟩ = false := Hbe.out.free 1
              have z2 : W74.cell? ⟨be, 2, none⟩ = some (.int .i64 0) := Hbe.out.cell 2
              have f2 : W74.frozen? ⟨be, 2, none⟩ = false := Hbe.out.free 2
              have z3 : W74.cell? ⟨be, 3, none⟩ = some (.int .i64 0) := Hbe.out.cell 3
              have f3 : W74.frozen? ⟨be, 3, none⟩ = false := Hbe.out.free 3
              have z4 : W74.cell? ⟨be, 4, none⟩ = some (.slice none 0 0) := Hbe.out.cell 4
              have f4 : W74.frozen? ⟨be, 4, none⟩ = false := Hbe.out.free 4
              have z5 : W74.cell? ⟨be, 5, none⟩ = some (.bool false) := Hbe.out.cell 5
              have f5 : W74.frozen? ⟨be, 5, none⟩ = false := Hbe.out.free 5
              have z6 : W74.cell? ⟨be, 6, none⟩ = some (.slice none 0 0) := Hbe.out.cell 6
              have f6 : W74.frozen? ⟨be, 6, none⟩ = false := Hbe.out.free 6
              have hne : bs ≠ be := NBE.out
              go_simp
              have hset := set7 Hbe.out (.string ⟨#[97]⟩) (.int .i64 0) (.int .i64 0) (.int .i64 0) (.slice (some ⟨bs, 0, none⟩) 1 1) (.bool false) (.slice none 0 0)
              have hon := only7 W74 be (.string ⟨#[97]⟩) (.int .i64 0) (.int .i64 0) (.int .i64 0) (.slice (some ⟨bs, 0, none⟩) 1 1) (.bool false) (.slice none 0 0)
              have Hbsnn := Lib.hid ((Mv.of_only hon (s := [be]) (by simp)).has Hbsn.out (by rw [List.mem_singleton]; exact hne))
              have HB75 := Lib.hid (hon.below HB74.out HB74.out.size Gbe.out)
              generalize (((((((W74.setCell ⟨be, 0, none⟩ (.string ⟨#[97]⟩)).setCell ⟨be, 1, none⟩ (.int .i64 0)).setCell ⟨be, 2, none⟩ (.int .i64 0)).setCell ⟨be, 3, none⟩ (.int .i64 0)).setCell ⟨be, 4, none⟩ (.slice (some ⟨bs, 0, none⟩) 1 1)).setCell ⟨be, 5, none⟩ (.bool false)).setCell ⟨be, 6, none⟩ (.slice none 0 0)) = W75 at hset hon Hbsnn HB75 ⊢
              have HSET := Lib.hid hset
              clear hset hon hne z0 z1 z2 z3 z4 z5 z6 f0 f1 f2 f3 f4 f5 f6
              refine hK.out _ _ (trivial : TT _) (fun hHeld => ?_)
              clear hK K
              try simp only [Act.put, setIfInBounds_toArray, set_cons_zero, set_cons_succ]
              refine wpAnyH_done (by kernel_rfl) ?_ _
              clear hHeld
              go_wp2_with fail
              go_meet
              exact ⟨be, bs, rfl, Lib.hid ⟨HSET.out, Hbsnn.out, Gbs.out, HB75.out⟩⟩
            · go_simp
              have hbl : Below W70.heap.size W70 (W70.alloc (.cells #[.string ⟨#[]⟩, .int .i64 0, .int .i64 0, .int .i64 0, .slice none 0 0, .bool false, .slice none 0 0] 33)) := (Below.refl _ W70).alloc (Nat.le_refl _) _
              have HB76 := Lib.hid (HB70.out.trans (hbl.mono HB70.out.size))
              have hz := Has.made W70 33 #[.string ⟨#[]⟩, .int .i64 0, .int .i64 0, .int .i64 0, .slice none 0 0, .bool false, .slice none 0 0]
              have Hbbnn := Lib.hid (Hbbn.out.of_alloc (.cells #[.string ⟨#[]⟩, .int .i64 0, .int .i64 0, .int .i64 0, .slice none 0 0, .bool false, .slice none 0 0] 33))
              have Hban := Lib.hid (Hba.out.of_alloc (.cells #[.string ⟨#[]⟩, .int .i64 0, .int .i64 0, .int .i64 0, .slice none 0 0, .bool false, .slice none 0 0] 33))
              generalize W70.alloc (.cells #[.string ⟨#[]⟩, .int .i64 0, .int .i64 0, .int .i64 0, .slice none 0 0, .bool false, .slice none 0 0] 33) = W76 at HB76 hz Hbbnn Hban ⊢
              obtain ⟨be, hbe⟩ : ∃ b, W70.heap.size = b := ⟨_, rfl⟩
              rw [hbe] at hz ⊢
              have Gbe : Hid (w1.heap.size ≤ be) := Lib.hid (by rw [← hbe]; exact HB70.out.size)
              have Hbe := Lib.hid hz
              clear hz hbl hbe
              refine hK.out _ _ (trivial : TT _) (fun hHeld => ?_)
              clear hK K
              try simp only [Act.put, setIfInBounds_toArray, set_cons_zero, set_cons_succ]
              refine takeOne (i := 5) (by kernel_rfl) rfl (by rfl) (fun K hK => ?_)
              go_simp
              have hbl : Below W76.heap.size W76 (W76.alloc (.cells #[.string ⟨#[120]⟩, .string (S z32), .string (S z16), .bool false] 51)) := (Below.refl _ W76).alloc (Nat.le_refl _) _
              have HB77 := Lib.hid (HB76.out.trans (hbl.mono HB76.out.size))
              have hnx : be ≠ W76.heap.size := fun e => by have := Hbe.out.lt; omega
              have hz := Has.made W76 51 #[.string ⟨#[120]⟩, .string (S z32), .string (S z16), .bool false]
              have Hbbnnn := Lib.hid (Hbbnn.out.of_alloc (.cells #[.string ⟨#[120]⟩, .string (S z32), .string (S z16), .bool false] 51))
              have Hbann := Lib.hid (Hban.out.of_alloc (.cells #[.string ⟨#[120]⟩, .string (S z32), .string (S z16), .bool false] 51))
              have Hben := Lib.hid (Hbe.out.of_alloc (.cells #[.string ⟨#[120]⟩, .string (S z32), .string (S z16), .bool false] 51))
              generalize W76.alloc (.cells #[.string ⟨#[120]⟩, .string (S z32), .string (S z16), .bool false] 51) = W77 at HB77 hz Hbbnnn Hbann Hben ⊢
              obtain ⟨bs, hbe⟩ : ∃ b, W76.heap.size = b := ⟨_, rfl⟩
              rw [hbe] at hz hnx ⊢
              have NBE : Hid (bs ≠ be) := Lib.hid (fun e => hnx e.symm)
              clear hnx
              have Gbs : Hid (w1.heap.size ≤ bs) := Lib.hid (by rw [← hbe]; exact HB76.out.size)
              have Hbs := Lib.hid hz
              clear hz hbl hbe
              refine hK.out _ _ (trivial : TT _) (fun hHeld => ?_)
              clear hK K
              try simp only [Act.put, setIfInBounds_toArray, set_cons_zero, set_cons_succ]
              first
              | (refine tkW (i := 6) (v := ?_) rfl rfl ?_ ?_; rotate_left; (focus (intro w hSw; (try dsimp only at hSw); go_simp; first | done | with_reducible rfl)); (simp only [Act.at, setIfInBounds_toArray, set_cons_zero, set_cons_succ]))
              | (refine tkU (i := 6) rfl rfl ?_; (simp only [Act.at, setIfInBounds_toArray, set_cons_zero, set_cons_succ]))
              refine takeOne (i := 8) (by kernel_rfl) rfl (by rfl) (fun K hK => ?_)
              have z0 : W77.cell? ⟨be, 0, none⟩ = some (.string ⟨#[]⟩) := Hben.out.cell 0
              have f0 : W77.frozen? ⟨be, 0, none⟩ = false := Hben.out.free 0
              have z1 : W77.cell? ⟨be, 1, none⟩ = some (.int .i64 0) := Hben.out.cell 1
              have f1 : W77.frozen? ⟨be, 1, none⟩ = false := Hben.out.free 1
              have z2 : W77.cell? ⟨be, 2, none⟩ = some (.int .i64 0) := Hben.out.cell 2
              have f2 : W77.frozen? ⟨be, 2, none⟩ = false := Hben.out.free 2
              have z3 : W77.cell? ⟨be, 3, none⟩ = some (.int .i64 0) := Hben.out.cell 3
              have f3 : W77.frozen? ⟨be, 3, none⟩ = false := Hben.out.free 3
              have z4 : W77.cell? ⟨be, 4, none⟩ = some (.slice none 0 0) := Hben.out.cell 4
              have f4 : W77.frozen? ⟨be, 4, none⟩ = false := Hben.out.free 4
              have z5 : W77.cell? ⟨be, 5, none⟩ = some (.bool false) := Hben.out.cell 5
              have f5 : W77.frozen? ⟨be, 5, none⟩ = false := Hben.out.free 5
              have z6 : W77.cell? ⟨be, 6, none⟩ = some (.slice none 0 0) := Hben.out.cell 6
              have f6 : W77.frozen? ⟨be, 6, none⟩ = false := Hben.out.free 6
              have hne : bs ≠ be := NBE.out
              go_simp
              have hset := set7 Hben.out (.string ⟨#[97]⟩) (.int .i64 0) (.int .i64 0) (.int .i64 0) (.slice (some ⟨bs, 0, none⟩) 1 1) (.bool false) (.slice none 0 0)
              have hon := only7 W77 be (.string ⟨#[97]⟩) (.int .i64 0) (.int .i64 0) (.int .i64 0) (.slice (some ⟨bs, 0, none⟩) 1 1) (.bool false) (.slice none 0 0)
              have Hbsn := Lib.hid ((Mv.of_only hon (s := [be]) (by simp)).has Hbs.out (by rw [List.mem_singleton]; exact hne))
              have HB78 := Lib.hid (hon.below HB77.out HB77.out.size Gbe.out)
              generalize (((((((W77.setCell ⟨be, 0, none⟩ (.string ⟨#[97]⟩)).setCell ⟨be, 1, none⟩ (.int .i64 0)).setCell ⟨be, 2, none⟩ (.int .i64 0)).setCell ⟨be, 3, none⟩ (.int .i64 0)).setCell ⟨be, 4, none⟩ (.slice (some ⟨bs, 0, none⟩) 1 1)).setCell ⟨be, 5, none⟩ (.bool false)).setCell ⟨be, 6, none⟩ (.slice none 0 0)) = W78 at hset hon Hbsn HB78 ⊢
              have HSET := Lib.hid hset
              clear hset hon hne z0 z1 z2 z3 z4 z5 z6 f0 f1 f2 f3 f4 f5 f6
              refine hK.out _ _ (trivial : TT _) (fun hHeld => ?_)
              clear hK K
              try simp only [Act.put, setIfInBounds_toArray, set_cons_zero, set_cons_succ]
              refine wpAnyH_done (by kernel_rfl) ?_ _
              clear hHeld
              go_wp2_with fail
              go_meet
              exact ⟨be, bs, rfl, Lib.hid ⟨HSET.out, Hbsn.out, Gbs.out, HB78.out⟩⟩
          · go_simp
            have hbl : Below W70.heap.size W70 (W70.alloc (.cells #[.string ⟨#[]⟩, .int .i64 0, .int .i64 0, .int .i64 0, .slice none 0 0, .bool false, .slice none 0 0] 33)) := (Below.refl _ W70).alloc (Nat.le_refl _) _
            have HB79 := Lib.hid (HB70.out.trans (hbl.mono HB70.out.size))
            have hz := Has.made W70 33 #[.string ⟨#[]⟩, .int .i64 0, .int .i64 0, .int .i64 0, .slice none 0 0, .bool false, .slice none 0 0]
            have Hbbnn := Lib.hid (Hbbn.out.of_alloc (.cells #[.string ⟨#[]⟩, .int .i64 0, .int .i64 0, .int .i64 0, .slice none 0 0, .bool false, .slice none 0 0] 33))
            have Hban := Lib.hid (Hba.out.of_alloc (.cells #[.string ⟨#[]⟩, .int .i64 0, .int .i64 0, .int .i64 0, .slice none 0 0, .bool false, .slice none 0 0] 33))
            generalize W70.alloc (.cells #[.string ⟨#[]⟩, .int .i64 0, .int .i64 0, .int .i64 0, .slice none 0 0, .bool false, .slice none 0 0] 33) = W79 at HB79 hz Hbbnn Hban ⊢
            obtain ⟨be, hbe⟩ : ∃ b, W70.heap.size = b := ⟨_, rfl⟩
            rw [hbe] at hz ⊢
            have Gbe : Hid (w1.heap.size ≤ be) := Lib.hid (by rw [← hbe]; exact HB70.out.size)
            have Hbe := Lib.hid hz
            clear hz hbl hbe
            refine hK.out _ _ (trivial : TT _) (fun hHeld => ?_)
            clear hK K
            try simp only [Act.put, setIfInBounds_toArray, set_cons_zero, set_cons_succ]
            refine takeOne (i := 3) (by kernel_rfl) rfl (by rfl) (fun K hK => ?_)
            have hcv := cv16 Hbbnn.out
            go_simp
            clear hcv
            refine hK.out _ _ (trivial : TT _) (fun hHeld => ?_)
            clear hK K
            try simp only [Act.put, setIfInBounds_toArray, set_cons_zero, set_cons_succ]
            first
            | (refine tkW (i := 4) (v := ?_) rfl rfl ?_ ?_; rotate_left; (focus (intro w hSw; (try dsimp only at hSw); go_simp; first | done | with_reducible rfl)); (simp only [Act.at, setIfInBounds_toArray, set_cons_zero, set_cons_succ]))
            | (refine tkU (i := 4) rfl rfl ?_; (simp only [Act.at, setIfInBounds_toArray, set_cons_zero, set_cons_succ]))
            refine takeOne (i := 5) (by kernel_rfl) rfl (by rfl) (fun K hK => ?_)
            go_simp
            have hbl : Below W79.heap.size W79 (W79.alloc (.cells #[.string ⟨#[120]⟩, .string (S z32), .string (S z16), .bool false] 51)) := (Below.refl _ W79).alloc (Nat.le_refl _) _
            have HB81 := Lib.hid (HB79.out.trans (hbl.mono HB79.out.size))
            have hnx : be ≠ W79.heap.size := fun e => by have := Hbe.out.lt; omega
            have hz := Has.made W79 51 #[.string ⟨#[120]⟩, .string (S z32), .string (S z16), .bool false]
            have Hbbnnn := Lib.hid (Hbbnn.out.of_alloc (.cells #[.string ⟨#[120]⟩, .string (S z32), .string (S z16), .bool false] 51))
            have Hbann := Lib.hid (Hban.out.of_alloc (.cells #[.string ⟨#[120]⟩, .string (S z32), .string (S z16), .bool false] 51))
            have Hben := Lib.hid (Hbe.out.of_alloc (.cells #[.string ⟨#[120]⟩, .string (S z32), .string (S z16), .bool false] 51))
            generalize W79.alloc (.cells #[.string ⟨#[120]⟩, .string (S z32), .string (S z16), .bool false] 51) = W81 at HB81 hz Hbbnnn Hbann Hben ⊢
            obtain ⟨bs, hbe⟩ : ∃ b, W79.heap.size = b := ⟨_, rfl⟩
            rw [hbe] at hz hnx ⊢
            have NBE : Hid (bs ≠ be) := Lib.hid (fun e => hnx e.symm)
            clear hnx
            have Gbs : Hid (w1.heap.size ≤ bs) := Lib.hid (by rw [← hbe]; exact HB79.out.size)
            have Hbs := Lib.hid hz
            clear hz hbl hbe
            refine hK.out _ _ (trivial : TT _) (fun hHeld => ?_)
            clear hK K
            try simp only [Act.put, setIfInBounds_toArray, set_cons_zero, set_cons_succ]
            first
            | (refine tkW (i := 6) (v := ?_) rfl rfl ?_ ?_; rotate_left; (focus (intro w hSw; (try dsimp only at hSw); go_simp; first | done | with_reducible rfl)); (simp only [Act.at, setIfInBounds_toArray, set_cons_zero, set_cons_succ]))
            | (refine tkU (i := 6) rfl rfl ?_; (simp only [Act.at, setIfInBounds_toArray, set_cons_zero, set_cons_succ]))
            refine takeOne (i := 8) (by kernel_rfl) rfl (by rfl) (fun K hK => ?_)
            have z0 : W81.cell? ⟨be, 0, none⟩ = some (.string ⟨#[]⟩) := Hben.out.cell 0
            have f0 : W81.frozen? ⟨be, 0, none⟩ = false := Hben.out.free 0
            have z1 : W81.cell? ⟨be, 1, none⟩ = some (.int .i64 0) := Hben.out.cell 1
            have f1 : W81.frozen? ⟨be, 1, none⟩ = false := Hben.out.free 1
            have z2 : W81.cell? ⟨be, 2, none⟩ = some (.int .i64 0) := Hben.out.cell 2
            have f2 : W81.frozen? ⟨be, 2, none⟩ = false := Hben.out.free 2
            have z3 : W81.cell? ⟨be, 3, none⟩ = some (.int .i64 0) := Hben.out.cell 3
            have f3 : W81.frozen? ⟨be, 3, none⟩ = false := Hben.out.free 3
            have z4 : W81.cell? ⟨be, 4, none⟩ = some (.slice none 0 0) := Hben.out.cell 4
            have f4 : W81.frozen? ⟨be, 4, none⟩ = false := Hben.out.free 4
            have z5 : W81.cell? ⟨be, 5, none⟩ = some (.bool false) := Hben.out.cell 5
            have f5 : W81.frozen? ⟨be, 5, none⟩ = false := Hben.out.free 5
            have z6 : W81.cell? ⟨be, 6, none⟩ = some (.slice none 0 0) := Hben.out.cell 6
            have f6 : W81.frozen? ⟨be, 6, none⟩ = false := Hben.out.free 6
            have hne : bs ≠ be := NBE.out
            go_simp
            have hset := set7 Hben.out (.string ⟨#[97]⟩) (.int .i64 0) (.int .i64 0) (.int .i64 0) (.slice (some ⟨bs, 0, none⟩) 1 1) (.bool false) (.slice none 0 0)
            have hon := only7 W81 be (.string ⟨#[97]⟩) (.int .i64 0) (.int .i64 0) (.int .i64 0) (.slice (some ⟨bs, 0, none⟩) 1 1) (.bool false) (.slice none 0 0)
            have Hbsn := Lib.hid ((Mv.of_only hon (s := [be]) (by simp)).has Hbs.out (by rw [List.mem_singleton]; exact hne))
            have HB82 := Lib.hid (hon.below HB81.out HB81.out.size Gbe.out)
            generalize (((((((W81.setCell ⟨be, 0, none⟩ (.string ⟨#[97]⟩)).setCell ⟨be, 1, none⟩ (.int .i64 0)).setCell ⟨be, 2, none⟩ (.int .i64 0)).setCell ⟨be, 3, none⟩ (.int .i64 0)).setCell ⟨be, 4, none⟩ (.slice (some ⟨bs, 0, none⟩) 1 1)).setCell ⟨be, 5, none⟩ (.bool false)).setCell ⟨be, 6, none⟩ (.slice none 0 0)) = W82 at hset hon Hbsn HB82 ⊢
            have HSET := Lib.hid hset
            clear hset hon hne z0 z1 z2 z3 z4 z5 z6 f0 f1 f2 f3 f4 f5 f6
            refine hK.out _ _ (trivial : TT _) (fun hHeld => ?_)
            clear hK K
            try simp only [Act.put, setIfInBounds_toArray, set_cons_zero, set_cons_succ]
            refine wpAnyH_done (by kernel_rfl) ?_ _
            clear hHeld
            go_wp2_with fail
            go_meet
            exact ⟨be, bs, rfl, Lib.hid ⟨HSET.out, Hbsn.out, Gbs.out, HB82.out⟩⟩
        · have hcv := cv16 Hbbn.out
          go_simp
          clear hcv
          refine hK.out _ _ (trivial : TT _) (fun hHeld => ?_)
          clear hK K
          try simp only [Act.put, setIfInBounds_toArray, set_cons_zero, set_cons_succ]
          refine takeTwo (i := 1) (j := 7) (by kernel_rfl) rfl rfl (by rfl) (by rfl) (fun K hK => ?_) (fun K hK => ?_)
          · have hcv := cv32 Hba.out
            go_simp
            clear hcv
            refine hK.out _ _ (trivial : TT _) (fun hHeld => ?_)
            clear hK K
            try simp only [Act.put, setIfInBounds_toArray, set_cons_zero, set_cons_succ]
            first
            | (refine tkW (i := 4) (v := ?_) rfl rfl ?_ ?_; rotate_left; (focus (intro w hSw; (try dsimp only at hSw); go_simp; first | done | with_reducible rfl)); (simp only [Act.at, setIfInBounds_toArray, set_cons_zero, set_cons_succ]))
            | (refine tkU (i := 4) rfl rfl ?_; (simp only [Act.at, setIfInBounds_toArray, set_cons_zero, set_cons_succ]))
            refine takeTwo (i := 5) (j := 7) (by kernel_rfl) rfl rfl (by rfl) (by rfl) (fun K hK => ?_) (fun K hK => ?_)
            · go_simp
              have hbl : Below W70.heap.size W70 (W70.alloc (.cells #[.string ⟨#[120]⟩, .string (S z32), .string (S z16), .bool false] 51)) := (Below.refl _ W70).alloc (Nat.le_refl _) _
              have HB85 := Lib.hid (HB70.out.trans (hbl.mono HB70.out.size))
              have hz := Has.made W70 51 #[.string ⟨#[120]⟩, .string (S z32), .string (S z16), .bool false]
              have Hbbnn := Lib.hid (Hbbn.out.of_alloc (.cells #[.string ⟨#[120]⟩, .string (S z32), .string (S z16), .bool false] 51))
              have Hban := Lib.hid (Hba.out.of_alloc (.cells #[.string ⟨#[120]⟩, .string (S z32), .string (S z16), .bool false] 51))
              generalize W70.alloc (.cells #[.string ⟨#[120]⟩, .string (S z32), .string (S z16), .bool false] 51) = W85 at HB85 hz Hbbnn Hban ⊢
              obtain ⟨bs, hbe⟩ : ∃ b, W70.heap.size = b := ⟨_, rfl⟩
              rw [hbe] at hz ⊢
              have Gbs : Hid (w1.heap.size ≤ bs) := Lib.hid (by rw [← hbe]; exact HB70.out.size)
              have Hbs := Lib.hid hz
              clear hz hbl hbe
              refine hK.out _ _ (trivial : TT _) (fun hHeld => ?_)
              clear hK K
              try simp only [Act.put, setIfInBounds_toArray, set_cons_zero, set_cons_succ]
              first
              | (refine tkW (i := 6) (v := ?_) rfl rfl ?_ ?_; rotate_left; (focus (intro w hSw; (try dsimp only at hSw); go_simp; first | done | with_reducible rfl)); (simp only [Act.at, setIfInBounds_toArray, set_cons_zero, set_cons_succ]))
              | (refine tkU (i := 6) rfl rfl ?_; (simp only [Act.at, setIfInBounds_toArray, set_cons_zero, set_cons_succ]))
              refine takeOne (i := 7) (by kernel_rfl) rfl (by rfl) (fun K hK => ?_)
              go_simp
              have hbl : Below W85.heap.size W85 (W85.alloc (.cells #[.string ⟨#[]⟩, .int .i64 0, .int .i64 0, .int .i64 0, .slice none 0 0, .bool false, .slice none 0 0] 33)) := (Below.refl _ W85).alloc (Nat.le_refl _) _
              have HB86 := Lib.hid (HB85.out.trans (hbl.mono HB85.out.size))
              have hnx : bs ≠ W85.heap.size := fun e => by have := Hbs.out.lt; omega
              have hz := Has.made W85 33 #[.string ⟨#[]⟩, .int .i64 0, .int .i64 0, .int .i64 0, .slice none 0 0, .bool false, .slice none 0 0]
              have Hbbnnn := Lib.hid (Hbbnn.out.of_alloc (.cells #[.string ⟨#[]⟩, .int .i64 0, .int .i64 0, .int .i64 0, .slice none 0 0, .bool false, .slice none 0 0] 33))
              have Hbann := Lib.hid (Hban.out.of_alloc (.cells #[.string ⟨#[]⟩, .int .i64 0, .int .i64 0, .int .i64 0, .slice none 0 0, .bool false, .slice none 0 0] 33))
              have Hbsn := Lib.hid (Hbs.out.of_alloc (.cells #[.string ⟨#[]⟩, .int .i64 0, .int .i64 0, .int .i64 0, .slice none 0 0, .bool false, .slice none 0 0] 33))
              generalize W85.alloc (.cells #[.string ⟨#[]⟩, .int .i64 0, .int .i64 0, .int .i64 0, .slice none 0 0, .bool false, .slice none 0 0] 33) = W86 at HB86 hz Hbbnnn Hbann Hbsn ⊢
              obtain ⟨be, hbe⟩ : ∃ b, W85.heap.size = b := ⟨_, rfl⟩
              rw [hbe] at hz hnx ⊢
              have NBE : Hid (bs ≠ be) := Lib.hid hnx
              clear hnx
              have Gbe : Hid (w1.heap.size ≤ be) := Lib.hid (by rw [← hbe]; exact HB85.out.size)
              have Hbe := Lib.hid hz
              clear hz hbl hbe
              refine hK.out _ _ (trivial : TT _) (fun hHeld => ?_)
              clear hK K
              try simp only [Act.put, setIfInBounds_toArray, set_cons_zero, set_cons_succ]
              refine takeOne (i := 8) (by kernel_rfl) rfl (by rfl) (fun K hK => ?_)
              have z0 : W86.cell? ⟨be, 0, none⟩ = some (.string ⟨#[]⟩) := Hbe.out.cell 0
              have f0 : W86.frozen? ⟨be, 0, none⟩ = false := Hbe.out.free 0
              have z1 : W86.cell? ⟨be, 1, none⟩ = some (.int .i64 0) := Hbe.out.cell 1
              have f1 : W86.frozen? ⟨be, 1, none⟩ = false := Hbe.out.free 1
              have z2 : W86.cell? ⟨be, 2, none⟩ = some (.int .i64 0) := Hbe.out.cell 2
              have f2 : W86.frozen? ⟨be, 2, none⟩ = false := Hbe.out.free 2
              have z3 : W86.cell? ⟨be, 3, none⟩ = some (.int .i64 0) := Hbe.out.cell 3
              have f3 : W86.frozen? ⟨be, 3, none⟩ = false := Hbe.out.free 3
              have z4 : W86.cell? ⟨be, 4, none⟩ = some (.slice none 0 0) := Hbe.out.cell 4
              have f4 : W86.frozen? ⟨be, 4, none⟩ = false := Hbe.out.free 4
              have z5 : W86.cell? ⟨be, 5, none⟩ = some (.bool false) := Hbe.out.cell 5
              have f5 : W86.frozen? ⟨be, 5, none⟩ = false := Hbe.out.free 5
              have z6 : W86.cell? ⟨be, 6, none⟩ = some (.slice none 0 0) := Hbe.out.cell 6
              have f6 : W86.frozen? ⟨be, 6, none⟩ = false := Hbe.out.free 6
              have hne : bs ≠ be := NBE.out
              go_simp
              have hset := set7 Hbe.out (.string ⟨#[97]⟩) (.int .i64 0) (.int .i64 0) (.int .i64 0) (.slice (some ⟨bs, 0, none⟩) 1 1) (.bool false) (.slice none 0 0)
              have hon := only7 W86 be (.string ⟨#[97]⟩) (.int .i64 0) (.int .i64 0) (.int .i64 0) (.slice (some ⟨bs, 0, none⟩) 1 1) (.bool false) (.slice none 0 0)
              have Hbsnn := Lib.hid ((Mv.of_only hon (s := [be]) (by simp)).has Hbsn.out (by rw [List.mem_singleton]; exact hne))
              have HB87 := Lib.hid (hon.below HB86.out HB86.out.size Gbe.out)
              generalize (((((((W86.setCell ⟨be, 0, none⟩ (.string ⟨#[97]⟩)).setCell ⟨be, 1, none⟩ (.int .i64 0)).setCell ⟨be, 2, none⟩ (.int .i64 0)).setCell ⟨be, 3, none⟩ (.int .i64 0)).setCell ⟨be, 4, none⟩ (.slice (some ⟨bs, 0, none⟩) 1 1)).setCell ⟨be, 5, none⟩ (.bool false)).setCell ⟨be, 6, none⟩ (.slice none 0 0)) = W87 at hset hon Hbsnn HB87 ⊢
              have HSET := Lib.hid hset
              clear hset hon hne z0 z1 z2 z3 z4 z5 z6 f0 f1 f2 f3 f4 f5 f6
              refine hK.out _ _ (trivial : TT _) (fun hHeld => ?_)
              clear hK K
              try simp only [Act.put, setIfInBounds_toArray, set_cons_zero, set_cons_succ]
              refine wpAnyH_done (by kernel_rfl) ?_ _
              clear hHeld
              go_wp2_with fail
              go_meet
              exact ⟨be, bs, rfl, Lib.hid ⟨HSET.out, Hbsnn.out, Gbs.out, HB87.out⟩⟩
            · go_simp
              have hbl : Below W70.heap.size W70 (W70.alloc (.cells #[.string ⟨#[]⟩, .int .i64 0, .int .i64 0, .int .i64 0, .slice none 0 0, .bool false, .slice none 0 0] 33)) := (Below.refl _ W70).alloc (Nat.le_refl _) _
              have HB88 := Lib.hid (HB70.out.trans (hbl.mono HB70.out.size))
              have hz := Has.made W70 33 #[.string ⟨#[]⟩, .int .i64 0, .int .i64 0, .int .i64 0, .slice none 0 0, .bool false, .slice none 0 0]
              have Hbbnn := Lib.hid (Hbbn.out.of_alloc (.cells #[.string ⟨#[]⟩, .int .i64 0, .int .i64 0, .int .i64 0, .slice none 0 0, .bool false, .slice none 0 0] 33))
              have Hban := Lib.hid (Hba.out.of_alloc (.cells #[.string ⟨#[]⟩, .int .i64 0, .int .i64 0, .int .i64 0, .slice none 0 0, .bool false, .slice none 0 0] 33))
              generalize W70.alloc (.cells #[.string ⟨#[]⟩, .int .i64 0, .int .i64 0, .int .i64 0, .slice none 0 0, .bool false, .slice none 0 0] 33) = W88 at HB88 hz Hbbnn Hban ⊢
              obtain ⟨be, hbe⟩ : ∃ b, W70.heap.size = b := ⟨_, rfl⟩
              rw [hbe] at hz ⊢
              have Gbe : Hid (w1.heap.size ≤ be) := Lib.hid (by rw [← hbe]; exact HB70.out.size)
              have Hbe := Lib.hid hz
              clear hz hbl hbe
              refine hK.out _ _ (trivial : TT _) (fun hHeld => ?_)
              clear hK K
              try simp only [Act.put, setIfInBounds_toArray, set_cons_zero, set_cons_succ]
              refine takeOne (i := 5) (by kernel_rfl) rfl (by rfl) (fun K hK => ?_)
              go_simp
              have hbl : Below W88.heap.size W88 (W88.alloc (.cells #[.string ⟨#[120]⟩, .string (S z32), .string (S z16), .bool false] 51)) := (Below.refl _ W88).alloc (Nat.le_refl _) _
              have HB89 := Lib.hid (HB88.out.trans (hbl.mono HB88.out.size))
              have hnx : be ≠ W88.heap.size := fun e => by have := Hbe.out.lt; omega
              have hz := Has.made W88 51 #[.string ⟨#[120]⟩, .string (S z32), .string (S z16), .bool false]
              have Hbbnnn := Lib.hid (Hbbnn.out.of_alloc (.cells #[.string ⟨#[120]⟩, .string (S z32), .string (S z16), .bool false] 51))
              have Hbann := Lib.hid (Hban.out.of_alloc (.cells #[.string ⟨#[120]⟩, .string (S z32), .string (S z16), .bool false] 51))
              have Hben := Lib.hid (Hbe.out.of_alloc (.cells #[.string ⟨#[120]⟩, .string (S z32), .string (S z16), .bool false] 51))
              generalize W88.alloc (.cells #[.string ⟨#[120]⟩, .string (S z32), .string (S z16), .bool false] 51) = W89 at HB89 hz Hbbnnn Hbann Hben ⊢
              obtain ⟨bs, hbe⟩ : ∃ b, W88.heap.size = b := ⟨_, rfl⟩
              rw [hbe] at hz hnx ⊢
              have NBE : Hid (bs ≠ be) := Lib.hid (fun e => hnx e.symm)
              clear hnx
              have Gbs : Hid (w1.heap.size ≤ bs) := Lib.hid (by rw [← hbe]; exact HB88.out.size)
              have Hbs := Lib.hid hz
              clear hz hbl hbe
              refine hK.out _ _ (trivial : TT _) (fun hHeld => ?_)
              clear hK K
              try simp only [Act.put, setIfInBounds_toArray, set_cons_zero, set_cons_succ]
              first
              | (refine tkW (i := 6) (v := ?_) rfl rfl ?_ ?_; rotate_left; (focus (intro w hSw; (try dsimp only at hSw); go_simp; first | done | with_reducible rfl)); (simp only [Act.at, setIfInBounds_toArray, set_cons_zero, set_cons_succ]))
              | (refine tkU (i := 6) rfl rfl ?_; (simp only [Act.at, setIfInBounds_toArray, set_cons_zero, set_cons_succ]))
              refine takeOne (i := 8) (by kernel_rfl) rfl (by rfl) (fun K hK => ?_)
              have z0 : W89.cell? ⟨be, 0, none⟩ = some (.string ⟨#[]⟩) := Hben.out.cell 0
              have f0 : W89.frozen? ⟨be, 0, none⟩ = false := Hben.out.free 0
              have z1 : W89.cell? ⟨be, 1, none⟩ = some (.int .i64 0) := Hben.out.cell 1
              have f1 : W89.frozen? ⟨be, 1, none⟩ = false := Hben.out.free 1
              have z2 : W89.cell? ⟨be, 2, none⟩ = some (.int .i64 0) := Hben.out.cell 2
              have f2 : W89.frozen? ⟨be, 2, none⟩ = false := Hben.out.free 2
              have z3 : W89.cell? ⟨be, 3, none⟩ = some (.int .i64 0) := Hben.out.cell 3
              have f3 : W89.frozen? ⟨be, 3, none⟩ = false := Hben.out.free 3
              have z4 : W89.cell? ⟨be, 4, none⟩ = some (.slice none 0 0) := Hben.out.cell 4
              have f4 : W89.frozen? ⟨be, 4, none⟩ = false := Hben.out.free 4
              have z5 : W89.cell? ⟨be, 5, none⟩ = some (.bool false) := Hben.out.cell 5
              have f5 : W89.frozen? ⟨be, 5, none⟩ = false := Hben.out.free 5
              have z6 : W89.cell? ⟨be, 6, none⟩ = some (.slice none 0 0) := Hben.out.cell 6
              have f6 : W89.frozen? ⟨be, 6, none⟩ = false := Hben.out.free 6
              have hne : bs ≠ be := NBE.out
              go_simp
              have hset := set7 Hben.out (.string ⟨#[97]⟩) (.int .i64 0) (.int .i64 0) (.int .i64 0) (.slice (some ⟨bs, 0, none⟩) 1 1) (.bool false) (.slice none 0 0)
              have hon := only7 W89 be (.string ⟨#[97]⟩) (.int .i64 0) (.int .i64 0) (.int .i64 0) (.slice (some ⟨bs, 0, none⟩) 1 1) (.bool false) (.slice none 0 0)
              have Hbsn := Lib.hid ((Mv.of_only hon (s := [be]) (by simp)).has Hbs.out (by rw [List.mem_singleton]; exact hne))
              have HB90 := Lib.hid (hon.below HB89.out HB89.out.size Gbe.out)
              generalize (((((((W89.setCell ⟨be, 0, none⟩ (.string ⟨#[97]⟩)).setCell ⟨be, 1, none⟩ (.int .i64 0)).setCell ⟨be, 2, none⟩ (.int .i64 0)).setCell ⟨be, 3, none⟩ (.int .i64 0)).setCell ⟨be, 4, none⟩ (.slice (some ⟨bs, 0, none⟩) 1 1)).setCell ⟨be, 5, none⟩ (.bool false)).setCell ⟨be, 6, none⟩ (.slice none 0 0)) = W90 at hset hon Hbsn HB90 ⊢
              have HSET := Lib.hid hset
              clear hset hon hne z0 z1 z2 z3 z4 z5 z6 f0 f1 f2 f3 f4 f5 f6
              refine hK.out _ _ (trivial : TT _) (fun hHeld => ?_)
              clear hK K
              try simp only [Act.put, setIfInBounds_toArray, set_cons_zero, set_cons_succ]
              refine wpAnyH_done (by kernel_rfl) ?_ _
              clear hHeld
              go_wp2_with fail
              go_meet
              exact ⟨be, bs, rfl, Lib.hid ⟨HSET.out, Hbsn.out, Gbs.out, HB90.out⟩⟩
          · go_simp
            have hbl : Below W70.heap.size W70 (W70.alloc (.cells #[.string ⟨#[]⟩, .int .i64 0, .int .i64 0, .int .i64 0, .slice none 0 0, .bool false, .slice none 0 0] 33)) := (Below.refl _ W70).alloc (Nat.le_refl _) _
            have HB91 := Lib.hid (HB70.out.trans (hbl.mono HB70.out.size))
            have hz := Has.made W70 33 #[.string ⟨#[]⟩, .int .i64 0, .int .i64 0, .int .i64 0, .slice none 0 0, .bool false, .slice none 0 0]
            have Hbbnn := Lib.hid (Hbbn.out.of_alloc (.cells #[.string ⟨#[]⟩, .int .i64 0, .int .i64 0, .int .i64 0, .slice none 0 0, .bool false, .slice none 0 0] 33))
            have Hban := Lib.hid (Hba.out.of_alloc (.cells #[.string ⟨#[]⟩, .int .i64 0, .int .i64 0, .int .i64 0, .slice none 0 0, .bool false, .slice none 0 0] 33))
            generalize W70.alloc (.cells #[.string ⟨#[]⟩, .int .i64 0, .int .i64 0, .int .i64 0, .slice none 0 0, .bool false, .slice none 0 0] 33) = W91 at HB91 hz Hbbnn Hban ⊢
            obtain ⟨be, hbe⟩ : ∃ b, W70.heap.size = b := ⟨_, rfl⟩
            rw [hbe] at hz ⊢
            have Gbe : Hid (w1.heap.size ≤ be) := Lib.hid (by rw [← hbe]; exact HB70.out.size)
            have Hbe := Lib.hid hz
            clear hz hbl hbe
            refine hK.out _ _ (trivial : TT _) (fun hHeld => ?_)
            clear hK K
            try simp only [Act.put, setIfInBounds_toArray, set_cons_zero, set_cons_succ]
            refine takeOne (i := 1) (by kernel_rfl) rfl (by rfl) (fun K hK => ?_)
            have hcv := cv32 Hban.out
            go_simp
            clear hcv
            refine hK.out _ _ (trivial : TT _) (fun hHeld => ?_)
            clear hK K
            try simp only [Act.put, setIfInBounds_toArray, set_cons_zero, set_cons_succ]
            first
            | (refine tkW (i := 4) (v := ?_) rfl rfl ?_ ?_; rotate_left; (focus (intro w hSw; (try dsimp only at hSw); go_simp; first | done | with_reducible rfl)); (simp only [Act.at, setIfInBounds_toArray, set_cons_zero, set_cons_succ]))
            | (refine tkU (i := 4) rfl rfl ?_; (simp only [Act.at, setIfInBounds_toArray, set_cons_zero, set_cons_succ]))
            refine takeOne (i := 5) (by kernel_rfl) rfl (by rfl) (fun K hK => ?_)
            go_simp
            have hbl : Below W91.heap.size W91 (W91.alloc (.cells #[.string ⟨#[120]⟩, .string (S z32), .string (S z16), .bool false] 51)) := (Below.refl _ W91).alloc (Nat.le_refl _) _
            have HB93 := Lib.hid (HB91.out.trans (hbl.mono HB91.out.size))
            have hnx : be ≠ W91.heap.size := fun e => by have := Hbe.out.lt; omega
            have hz := Has.made W91 51 #[.string ⟨#[120]⟩, .string (S z32), .string (S z16), .bool false]
            have Hbbnnn := Lib.hid (Hbbnn.out.of_alloc (.cells #[.string ⟨#[120]⟩, .string (S z32), .string (S z16), .bool false] 51))
            have Hbann := Lib.hid (Hban.out.of_alloc (.cells #[.string ⟨#[120]⟩, .string (S z32), .string (S z16), .bool false] 51))
            have Hben := Lib.hid (Hbe.out.of_alloc (.cells #[.string ⟨#[120]⟩, .string (S z32), .string (S z16), .bool false] 51))
            generalize W91.alloc (.cells #[.string ⟨#[120]⟩, .string (S z32), .string (S z16), .bool false] 51) = W93 at HB93 hz Hbbnnn Hbann Hben ⊢
            obtain ⟨bs, hbe⟩ : ∃ b, W91.heap.size = b := ⟨_, rfl⟩
            rw [hbe] at hz hnx ⊢
            have NBE : Hid (bs ≠ be) := Lib.hid (fun e => hnx e.symm)
            clear hnx
            have Gbs : Hid (w1.heap.size ≤ bs) := Lib.hid (by rw [← hbe]; exact HB91.out.size)
            have Hbs := Lib.hid hz
            clear hz hbl hbe
            refine hK.out _ _ (trivial : TT _) (fun hHeld => ?_)
            clear hK K
            try simp only [Act.put, setIfInBounds_toArray, set_cons_zero, set_cons_succ]
            first
            | (refine tkW (i := 6) (v := ?_) rfl rfl ?_ ?_; rotate_left; (focus (intro w hSw; (try dsimp only at hSw); go_simp; first | done | with_reducible rfl)); (simp only [Act.at, setIfInBounds_toArray, set_cons_zero, set_cons_succ]))
            | (refine tkU (i := 6) rfl rfl ?_; (simp only [Act.at, setIfInBounds_toArray, set_cons_zero, set_cons_succ]))
            refine takeOne (i := 8) (by kernel_rfl) rfl (by rfl) (fun K hK => ?_)
            have z0 : W93.cell? ⟨be, 0, none⟩ = some (.string ⟨#[]⟩) := Hben.out.cell 0
            have f0 : W93.frozen? ⟨be, 0, none⟩ = false := Hben.out.free 0
            have z1 : W93.cell? ⟨be, 1, none⟩ = some (.int .i64 0) := Hben.out.cell 1
            have f1 : W93.frozen? ⟨be, 1, none⟩ = false := Hben.out.free 1
            have z2 : W93.cell? ⟨be, 2, none⟩ = some (.int .i64 0) := Hben.out.cell 2
            have f2 : W93.frozen? ⟨be, 2, none⟩ = false := Hben.out.free 2
            have z3 : W93.cell? ⟨be, 3, none⟩ = some (.int .i64 0) := Hben.out.cell 3
            have f3 : W93.frozen? ⟨be, 3, none⟩ = false := Hben.out.free 3
            have z4 : W93.cell? ⟨be, 4, none⟩ = some (.slice none 0 0) := Hben.out.cell 4
            have f4 : W93.frozen? ⟨be, 4, none⟩ = false := Hben.out.free 4
            have z5 : W93.cell? ⟨be, 5, none⟩ = some (.bool false) := Hben.out.cell 5
            have f5 : W93.frozen? ⟨be, 5, none⟩ = false := Hben.out.free 5
            have z6 : W93.cell? ⟨be, 6, none⟩ = some (.slice none 0 0) := Hben.out.cell 6
            have f6 : W93.frozen? ⟨be, 6, none⟩ = false := Hben.out.free 6
            have hne : bs ≠ be := NBE.out
            go_simp
            have hset := set7 Hben.out (.string ⟨#[97]⟩) (.int .i64 0) (.int .i64 0) (.int .i64 0) (.slice (some ⟨bs, 0, none⟩) 1 1) (.bool false) (.slice none 0 0)
            have hon := only7 W93 be (.string ⟨#[97]⟩) (.int .i64 0) (.int .i64 0) (.int .i64 0) (.slice (some ⟨bs, 0, none⟩) 1 1) (.bool false) (.slice none 0 0)
            have Hbsn := Lib.hid ((Mv.of_only hon (s := [be]) (by simp)).has Hbs.out (by rw [List.mem_singleton]; exact hne))
            have HB94 := Lib.hid (hon.below HB93.out HB93.out.size Gbe.out)
            generalize (((((((W93.setCell ⟨be, 0, none⟩ (.string ⟨#[97]⟩)).setCell ⟨be, 1, none⟩ (.int .i64 0)).setCell ⟨be, 2, none⟩ (.int .i64 0)).setCell ⟨be, 3, none⟩ (.int .i64 0)).setCell ⟨be, 4, none⟩ (.slice (some ⟨bs, 0, none⟩) 1 1)).setCell ⟨be, 5, none⟩ (.bool false)).setCell ⟨be, 6, none⟩ (.slice none 0 0)) = W94 at hset hon Hbsn HB94 ⊢
            have HSET := Lib.hid hset
            clear hset hon hne z0 z1 z2 z3 z4 z5 z6 f0 f1 f2 f3 f4 f5 f6
            refine hK.out _ _ (trivial : TT _) (fun hHeld => ?_)
            clear hK K
            try simp only [Act.put, setIfInBounds_toArray, set_cons_zero, set_cons_succ]
            refine wpAnyH_done (by kernel_rfl) ?_ _
            clear hHeld
            go_wp2_with fail
            go_meet
            exact ⟨be, bs, rfl, Lib.hid ⟨HSET.out, Hbsn.out, Gbs.out, HB94.out⟩⟩
        · go_simp
          have hbl : Below W70.heap.size W70 (W70.alloc (.cells #[.string ⟨#[]⟩, .int .i64 0, .int .i64 0, .int .i64 0, .slice none 0 0, .bool false, .slice none 0 0] 33)) := (Below.refl _ W70).alloc (Nat.le_refl _) _
          have HB95 := Lib.hid (HB70.out.trans (hbl.mono HB70.out.size))
          have hz := Has.made W70 33 #[.string ⟨#[]⟩, .int .i64 0, .int .i64 0, .int .i64 0, .slice none 0 0, .bool false, .slice none 0 0]
          have Hbbnn := Lib.hid (Hbbn.out.of_alloc (.cells #[.string ⟨#[]⟩, .int .i64 0, .int .i64 0, .int .i64 0, .slice none 0 0, .bool false, .slice none 0 0] 33))
          have Hban := Lib.hid (Hba.out.of_alloc (.cells #[.string ⟨#[]⟩, .int .i64 0, .int .i64 0, .int .i64 0, .slice none 0 0, .bool false, .slice none 0 0] 33))
          generalize W70.alloc (.cells #[.string ⟨#[]⟩, .int .i64 0, .int .i64 0, .int .i64 0, .slice none 0 0, .bool false, .slice none 0 0] 33) = W95 at HB95 hz Hbbnn Hban ⊢
          obtain ⟨be, hbe⟩ : ∃ b, W70.heap.size = b := ⟨_, rfl⟩
          rw [hbe] at hz ⊢
          have Gbe : Hid (w1.heap.size ≤ be) := Lib.hid (by rw [← hbe]; exact HB70.out.size)
          have Hbe := Lib.hid hz
          clear hz hbl hbe
          refine hK.out _ _ (trivial : TT _) (fun hHeld => ?_)
          clear hK K
          try simp only [Act.put, setIfInBounds_toArray, set_cons_zero, set_cons_succ]
          refine takeTwo (i := 1) (j := 3) (by kernel_rfl) rfl rfl (by rfl) (by rfl) (fun K hK => ?_) (fun K hK => ?_)
          · have hcv := cv32 Hban.out
            go_simp
            clear hcv
            refine hK.out _ _ (trivial : TT _) (fun hHeld => ?_)
            clear hK K
            try simp only [Act.put, setIfInBounds_toArray, set_cons_zero, set_cons_succ]
            refine takeOne (i := 3) (by kernel_rfl) rfl (by rfl) (fun K hK => ?_)
            have hcv := cv16 Hbbnn.out
            go_simp
            clear hcv
            refine hK.out _ _ (trivial : TT _) (fun hHeld => ?_)
            clear hK K
            try simp only [Act.put, setIfInBounds_toArray, set_cons_zero, set_cons_succ]
            first
            | (refine tkW (i := 4) (v := ?_) rfl rfl ?_ ?_; rotate_left; (focus (intro w hSw; (try dsimp only at hSw); go_simp; first | done | with_reducible rfl)); (simp only [Act.at, setIfInBounds_toArray, set_cons_zero, set_cons_succ]))
            | (refine tkU (i := 4) rfl rfl ?_; (simp only [Act.at, setIfInBounds_toArray, set_cons_zero, set_cons_succ]))
            refine takeOne (i := 5) (by kernel_rfl) rfl (by rfl) (fun K hK => ?_)
            go_simp
            have hbl : Below W95.heap.size W95 (W95.alloc (.cells #[.string ⟨#[120]⟩, .string (S z32), .string (S z16), .bool false] 51)) := (Below.refl _ W95).alloc (Nat.le_refl _) _
            have HB98 := Lib.hid (HB95.out.trans (hbl.mono HB95.out.size))
            have hnx : be ≠ W95.heap.size := fun e => by have := Hbe.out.lt; omega
            have hz := Has.made W95 51 #[.string ⟨#[120]⟩, .string (S z32), .string (S z16), .bool false]
            have Hbbnnn := Lib.hid (Hbbnn.out.of_alloc (.cells #[.string ⟨#[120]⟩, .string (S z32), .string (S z16), .bool false] 51))
            have Hbann := Lib.hid (Hban.out.of_alloc (.cells #[.string ⟨#[120]⟩, .string (S z32), .string (S z16), .bool false] 51))
            have Hben := Lib.hid (Hbe.out.of_alloc (.cells #[.string ⟨#[120]⟩, .string (S z32), .string (S z16), .bool false] 51))
            generalize W95.alloc (.cells #[.string ⟨#[120]⟩, .string (S z32), .string (S z16), .bool false] 51) = W98 at HB98 hz Hbbnnn Hbann Hben ⊢
            obtain ⟨bs, hbe⟩ : ∃ b, W95.heap.size = b := ⟨_, rfl⟩
            rw [hbe] at hz hnx ⊢
            have NBE : Hid (bs ≠ be) := Lib.hid (fun e => hnx e.symm)
            clear hnx
            have Gbs : Hid (w1.heap.size ≤ bs) := Lib.hid (by rw [← hbe]; exact HB95.out.size)
            have Hbs := Lib.hid hz
            clear hz hbl hbe
            refine hK.out _ _ (trivial : TT _) (fun hHeld => ?_)
            clear hK K
            try simp only [Act.put, setIfInBounds_toArray, set_cons_zero, set_cons_succ]
            first
            | (refine tkW (i := 6) (v := ?_) rfl rfl ?_ ?_; rotate_left; (focus (intro w hSw; (try dsimp only at hSw); go_simp; first | done | with_reducible rfl)); (simp only [Act.at, setIfInBounds_toArray, set_cons_zero, set_cons_succ]))
            | (refine tkU (i := 6) rfl rfl ?_; (simp only [Act.at, setIfInBounds_toArray, set_cons_zero, set_cons_succ]))
            refine takeOne (i := 8) (by kernel_rfl) rfl (by rfl) (fun K hK => ?_)
            have z0 : W98.cell? ⟨be, 0, none⟩ = some (.string ⟨#[]⟩) := Hben.out.cell 0
            have f0 : W98.frozen? ⟨be, 0, none⟩ = false := Hben.out.free 0
            have z1 : W98.cell? ⟨be, 1, none⟩ = some (.int .i64 0) := Hben.out.cell 1
            have f1 : W98.frozen? ⟨be, 1, none⟩ = false := Hben.out.free 1
            have z2 : W98.cell? ⟨be, 2, none⟩ = some (.int .i64 0) := Hben.out.cell 2
            have f2 : W98.frozen? ⟨be, 2, none⟩ = false := Hben.out.free 2
            have z3 : W98.cell? ⟨be, 3, none⟩ = some (.int .i64 0) := Hben.out.cell 3
            have f3 : W98.frozen? ⟨be, 3, none⟩ = false := Hben.out.free 3
            have z4 : W98.cell? ⟨be, 4, none⟩ = some (.slice none 0 0) := Hben.out.cell 4
            have f4 : W98.frozen? ⟨be, 4, none⟩ = false := Hben.out.free 4
            have z5 : W98.cell? ⟨be, 5, none⟩ = some (.bool false) := Hben.out.cell 5
            have f5 : W98.frozen? ⟨be, 5, none⟩ = false := Hben.out.free 5
            have z6 : W98.cell? ⟨be, 6, none⟩ = some (.slice none 0 0) := Hben.out.cell 6
            have f6 : W98.frozen? ⟨be, 6, none⟩ = false := Hben.out.free 6
            have hne : bs ≠ be := NBE.out
            go_simp
            have hset := set7 Hben.out (.string ⟨#[97]⟩) (.int .i64 0) (.int .i64 0) (.int .i64 0) (.slice (some ⟨bs, 0, none⟩) 1 1) (.bool false) (.slice none 0 0)
            have hon := only7 W98 be (.string ⟨#[97]⟩) (.int .i64 0) (.int .i64 0) (.int .i64 0) (.slice (some ⟨bs, 0, none⟩) 1 1) (.bool false) (.slice none 0 0)
            have Hbsn := Lib.hid ((Mv.of_only hon (s := [be]) (by simp)).has Hbs.out (by rw [List.mem_singleton]; exact hne))
            have HB99 := Lib.hid (hon.below HB98.out HB98.out.size Gbe.out)
            generalize (((((((W98.setCell ⟨be, 0, none⟩ (.string ⟨#[97]⟩)).setCell ⟨be, 1, none⟩ (.int .i64 0)).setCell ⟨be, 2, none⟩ (.int .i64 0)).setCell ⟨be, 3, none⟩ (.int .i64 0)).setCell ⟨be, 4, none⟩ (.slice (some ⟨bs, 0, none⟩) 1 1)).setCell ⟨be, 5, none⟩ (.bool false)).setCell ⟨be, 6, none⟩ (.slice none 0 0)) = W99 at hset hon Hbsn HB99 ⊢
            have HSET := Lib.hid hset
            clear hset hon hne z0 z1 z2 z3 z4 z5 z6 f0 f1 f2 f3 f4 f5 f6
            refine hK.out _ _ (trivial : TT _) (fun hHeld => ?_)
            clear hK K
            try simp only [Act.put, setIfInBounds_toArray, set_cons_zero, set_cons_succ]
            refine wpAnyH_done (by kernel_rfl) ?_ _
            clear hHeld
            go_wp2_with fail
            go_meet
            exact ⟨be, bs, rfl, Lib.hid ⟨HSET.out, Hbsn.out, Gbs.out, HB99.out⟩⟩
          · have hcv := cv16 Hbbnn.out
            go_simp
            clear hcv
            refine hK.out _ _ (trivial : TT _) (fun hHeld => ?_)
            clear hK K
            try simp only [Act.put, setIfInBounds_toArray, set_cons_zero, set_cons_succ]
            refine takeOne (i := 1) (by kernel_rfl) rfl (by rfl) (fun K hK => ?_)
            have hcv := cv32 Hban.out
            go_simp
            clear hcv
            refine hK.out _ _ (trivial : TT _) (fun hHeld => ?_)
            clear hK K
            try simp only [Act.put, setIfInBounds_toArray, set_cons_zero, set_cons_succ]
            first
            | (refine tkW (i := 4) (v := ?_) rfl rfl ?_ ?_; rotate_left; (focus (intro w hSw; (try dsimp only at hSw); go_simp; first | done | with_reducible rfl)); (simp only [Act.at, setIfInBounds_toArray, set_cons_zero, set_cons_succ]))
            | (refine tkU (i := 4) rfl rfl ?_; (simp only [Act.at, setIfInBounds_toArray, set_cons_zero, set_cons_succ]))
            refine takeOne (i := 5) (by kernel_rfl) rfl (by rfl) (fun K hK => ?_)
            go_simp
            have hbl : Below W95.heap.size W95 (W95.alloc (.cells #[.string ⟨#[120]⟩, .string (S z32), .string (S z16), .bool false] 51)) := (Below.refl _ W95).alloc (Nat.le_refl _) _
            have HB102 := Lib.hid (HB95.out.trans (hbl.mono HB95.out.size))
            have hnx : be ≠ W95.heap.size := fun e => by have := Hbe.out.lt; omega
            have hz := Has.made W95 51 #[.string ⟨#[120]⟩, .string (S z32), .string (S z16), .bool false]
            have Hbbnnn := Lib.hid (Hbbnn.out.of_alloc (.cells #[.string ⟨#[120]⟩, .string (S z32), .string (S z16), .bool false] 51))
            have Hbann := Lib.hid (Hban.out.of_alloc (.cells #[.string ⟨#[120]⟩, .string (S z32), .string (S z16), .bool false] 51))
            have Hben := Lib.hid (Hbe.out.of_alloc (.cells #[.string ⟨#[120]⟩, .string (S z32), .string (S z16), .bool false] 51))
            generalize W95.alloc (.cells #[.string ⟨#[120]⟩, .string (S z32), .string (S z16), .bool false] 51) = W102 at HB102 hz Hbbnnn Hbann Hben ⊢
            obtain ⟨bs, hbe⟩ : ∃ b, W95.heap.size = b := ⟨_, rfl⟩
            rw [hbe] at hz hnx ⊢
            have NBE : Hid (bs ≠ be) := Lib.hid (fun e => hnx e.symm)
            clear hnx
            have Gbs : Hid (w1.heap.size ≤ bs) := Lib.hid (by rw [← hbe]; exact HB95.out.size)
            have Hbs := Lib.hid hz
            clear hz hbl hbe
            refine hK.out _ _ (trivial : TT _) (fun hHeld => ?_)
            clear hK K
            try simp only [Act.put, setIfInBounds_toArray, set_cons_zero, set_cons_succ]
            first
            | (refine tkW (i := 6) (v := ?_) rfl rfl ?_ ?_; rotate_left; (focus (intro w hSw; (try dsimp only at hSw); go_simp; first | done | with_reducible rfl)); (simp only [Act.at, setIfInBounds_toArray, set_cons_zero, set_cons_succ]))
            | (refine tkU (i := 6) rfl rfl ?_; (simp only [Act.at, setIfInBounds_toArray, set_cons_zero, set_cons_succ]))
            refine takeOne (i := 8) (by kernel_rfl) rfl (by rfl) (fun K hK => ?_)
            have z0 : W102.cell? ⟨be, 0, none⟩ = some (.string ⟨#[]⟩) := Hben.out.cell 0
            have f0 : W102.frozen? ⟨be, 0, none⟩ = false := Hben.out.free 0
            have z1 : W102.cell? ⟨be, 1, none⟩ = some (.int .i64 0) := Hben.out.cell 1
            have f1 : W102.frozen? ⟨be, 1, none⟩ = false := Hben.out.free 1
            have z2 : W102.cell? ⟨be, 2, none⟩ = some (.int .i64 0) := Hben.out.cell 2
            have f2 : W102.frozen? ⟨be, 2, none⟩ = false := Hben.out.free 2
            have z3 : W102.cell? ⟨be, 3, none⟩ = some (.int .i64 0) := Hben.out.cell 3
            have f3 : W102.frozen? ⟨be, 3, none⟩ = false := Hben.out.free 3
            have z4 : W102.cell? ⟨be, 4, none⟩ = some (.slice none 0 0) := Hben.out.cell 4
            have f4 : W102.frozen? ⟨be, 4, none⟩ = false := Hben.out.free 4
            have z5 : W102.cell? ⟨be, 5, none⟩ = some (.bool false) := Hben.out.cell 5
            have f5 : W102.frozen? ⟨be, 5, none⟩ = false := Hben.out.free 5
            have z6 : W102.cell? ⟨be, 6, none⟩ = some (.slice none 0 0) := Hben.out.cell 6
            have f6 : W102.frozen? ⟨be, 6, none⟩ = false := Hben.out.free 6
            have hne : bs ≠ be := NBE.out
            go_simp
            have hset := set7 Hben.out (.string ⟨#[97]⟩) (.int .i64 0) (.int .i64 0) (.int .i64 0) (.slice (some ⟨bs, 0, none⟩) 1 1) (.bool false) (.slice none 0 0)
            have hon := only7 W102 be (.string ⟨#[97]⟩) (.int .i64 0) (.int .i64 0) (.int .i64 0) (.slice (some ⟨bs, 0, none⟩) 1 1) (.bool false) (.slice none 0 0)
            have Hbsn := Lib.hid ((Mv.of_only hon (s := [be]) (by simp)).has Hbs.out (by rw [List.mem_singleton]; exact hne))
            have HB103 := Lib.hid (hon.below HB102.out HB102.out.size Gbe.out)
            generalize (((((((W102.setCell ⟨be, 0, none⟩ (.string ⟨#[97]⟩)).setCell ⟨be, 1, none⟩ (.int .i64 0)).setCell ⟨be, 2, none⟩ (.int .i64 0)).setCell ⟨be, 3, none⟩ (.int .i64 0)).setCell ⟨be, 4, none⟩ (.slice (some ⟨bs, 0, none⟩) 1 1)).setCell ⟨be, 5, none⟩ (.bool false)).setCell ⟨be, 6, none⟩ (.slice none 0 0)) = W103 at hset hon Hbsn HB103 ⊢
            have HSET := Lib.hid hset
            clear hset hon hne z0 z1 z2 z3 z4 z5 z6 f0 f1 f2 f3 f4 f5 f6
            refine hK.out _ _ (trivial : TT _) (fun hHeld => ?_)
            clear hK K
            try simp only [Act.put, setIfInBounds_toArray, set_cons_zero, set_cons_succ]
            refine wpAnyH_done (by kernel_rfl) ?_ _
            clear hHeld
            go_wp2_with fail
            go_meet
            exact ⟨be, bs, rfl, Lib.hid ⟨HSET.out, Hbsn.out, Gbs.out, HB103.out⟩⟩
      · have hcv := cv16 Hbb.out
        go_simp
        clear hcv
        refine hK.out _ _ (trivial : TT _) (fun hHeld => ?_)
        clear hK K
        try simp only [Act.put, setIfInBounds_toArray, set_cons_zero, set_cons_succ]
        refine takeTwo (i := 0) (j := 7) (by kernel_rfl) rfl rfl (by rfl) (by rfl) (fun K hK => ?_) (fun K hK => ?_)
        · go_simp
          have hbl : Below W69.heap.size W69 (W69.alloc (.cells (fillc 0 32 0) 5)) := (Below.refl _ W69).alloc (Nat.le_refl _) _
          have HB105 := Lib.hid (HB69.out.trans (hbl.mono HB69.out.size))
          have hz := Has.made W69 5 (fillc 0 32 0)
          have Hbbn := Lib.hid (Hbb.out.of_alloc (.cells (fillc 0 32 0) 5))
          generalize W69.alloc (.cells (fillc 0 32 0) 5) = W105 at HB105 hz Hbbn ⊢
          obtain ⟨ba, hbe⟩ : ∃ b, W69.heap.size = b := ⟨_, rfl⟩
          rw [hbe] at hz ⊢
          have Gba : Hid (w1.heap.size ≤ ba) := Lib.hid (by rw [← hbe]; exact HB69.out.size)
          have Hba := Lib.hid hz
          clear hz hbl hbe
          refine hK.out _ _ (trivial : TT _) (fun hHeld => ?_)
          clear hK K
          try simp only [Act.put, setIfInBounds_toArray, set_cons_zero, set_cons_succ]
          refine takeTwo (i := 1) (j := 7) (by kernel_rfl) rfl rfl (by rfl) (by rfl) (fun K hK => ?_) (fun K hK => ?_)
          · have hcv := cv32 Hba.out
            go_simp
            clear hcv
            refine hK.out _ _ (trivial : TT _) (fun hHeld => ?_)
            clear hK K
            try simp only [Act.put, setIfInBounds_toArray, set_cons_zero, set_cons_succ]
            first
            | (refine tkW (i := 4) (v := ?_) rfl rfl ?_ ?_; rotate_left; (focus (intro w hSw; (try dsimp only at hSw); go_simp; first | done | with_reducible rfl)); (simp only [Act.at, setIfInBounds_toArray, set_cons_zero, set_cons_succ]))
            | (refine tkU (i := 4) rfl rfl ?_; (simp only [Act.at, setIfInBounds_toArray, set_cons_zero, set_cons_succ]))
            refine takeTwo (i := 5) (j := 7) (by kernel_rfl) rfl rfl (by rfl) (by rfl) (fun K hK => ?_) (fun K hK => ?_)
            · go_simp
              have hbl : Below W105.heap.size W105 (W105.alloc (.cells #[.string ⟨#[120]⟩, .string (S z32), .string (S z16), .bool false] 51)) := (Below.refl _ W105).alloc (Nat.le_refl _) _
              have HB107 := Lib.hid (HB105.out.trans (hbl.mono HB105.out.size))
              have hz := Has.made W105 51 #[.string ⟨#[120]⟩, .string (S z32), .string (S z16), .bool false]
              have Hbbnn := Lib.hid (Hbbn.out.of_alloc (.cells #[.string ⟨#[120]⟩, .string (S z32), .string (S z16), .bool false] 51))
              have Hban := Lib.hid (Hba.out.of_alloc (.cells #[.string ⟨#[120]⟩, .string (S z32), .string (S z16), .bool false] 51))
              generalize W105.alloc (.cells #[.string ⟨#[120]⟩, .string (S z32), .string (S z16), .bool false] 51) = W107 at HB107 hz Hbbnn Hban ⊢
              obtain ⟨bs, hbe⟩ : ∃ b, W105.heap.size = b := ⟨_, rfl⟩
              rw [hbe] at hz ⊢
              have Gbs : Hid (w1.heap.size ≤ bs) := Lib.hid (by rw [← hbe]; exact HB105.out.size)
              have Hbs := Lib.hid hz
              clear hz hbl hbe
              refine hK.out _ _ (trivial : TT _) (fun hHeld => ?_)
              clear hK K
              try simp only [Act.put, setIfInBounds_toArray, set_cons_zero, set_cons_succ]
              first
              | (refine tkW (i := 6) (v := ?_) rfl rfl ?_ ?_; rotate_left; (focus (intro w hSw; (try dsimp only at hSw); go_simp; first | done | with_reducible rfl)); (simp only [Act.at, setIfInBounds_toArray, set_cons_zero, set_cons_succ]))
              | (refine tkU (i := 6) rfl rfl ?_; (simp only [Act.at, setIfInBounds_toArray, set_cons_zero, set_cons_succ]))
              refine takeOne (i := 7) (by kernel_rfl) rfl (by rfl) (fun K hK => ?_)
              go_simp
              have hbl : Below W107.heap.size W107 (W107.alloc (.cells #[.string ⟨#[]⟩, .int .i64 0, .int .i64 0, .int .i64 0, .slice none 0 0, .bool false, .slice none 0 0] 33)) := (Below.refl _ W107).alloc (Nat.le_refl _) _
              have HB108 := Lib.hid (HB107.out.trans (hbl.mono HB107.out.size))
              have hnx : bs ≠ W107.heap.size := fun e => by have := Hbs.out.lt; omega
              have hz := Has.made W107 33 #[.string ⟨#[]⟩, .int .i64 0, .int .i64 0, .int .i64 0, .slice none 0 0, .bool false, .slice none 0 0]
              have Hbbnnn := Lib.hid (Hbbnn.out.of_alloc (.cells #[.string ⟨#[]⟩, .int .i64 0, .int .i64 0, .int .i64 0, .slice none 0 0, .bool false, .slice none 0 0] 33))
              have Hbann := Lib.hid (Hban.out.of_alloc (.cells #[.string ⟨#[]⟩, .int .i64 0, .int .i64 0, .int .i64 0, .slice none 0 0, .bool false, .slice none 0 0] 33))
              have Hbsn := Lib.hid (Hbs.out.of_alloc (.cells #[.string ⟨#[]⟩, .int .i64 0, .int .i64 0, .int .i64 0, .slice none 0 0, .bool false, .slice none 0 0] 33))
              generalize W107.alloc (.cells #[.string ⟨#[]⟩, .int .i64 0, .int .i64 0, .int .i64 0, .slice none 0 0, .bool false, .slice none 0 0] 33) = W108 at HB108 hz Hbbnnn Hbann Hbsn ⊢
              obtain ⟨be, hbe⟩ : ∃ b, W107.heap.size = b := ⟨_, rfl⟩
              rw [hbe] at hz hnx ⊢
              have NBE : Hid (bs ≠ be) := Lib.hid hnx
              clear hnx
              have Gbe : Hid (w1.heap.size ≤ be) := Lib.hid (by rw [← hbe]; exact HB107.out.size)
              have Hbe := Lib.hid hz
              clear hz hbl hbe
              refine hK.out _ _ (trivial : TT _) (fun hHeld => ?_)
              clear hK K
              try simp only [Act.put, setIfInBounds_toArray, set_cons_zero, set_cons_succ]
              refine takeOne (i := 8) (by kernel_rfl) rfl (by rfl) (fun K hK => ?_)
              have z0 : W108.cell? ⟨be, 0, none⟩ = some (.string ⟨#[]⟩) := Hbe.out.cell 0
              have f0 : W108.frozen? ⟨be, 0, none⟩ = false := Hbe.out.free 0
              have z1 : W108.cell? ⟨be, 1, none⟩ = some (.int .i64 0) := Hbe.out.cell 1
              have f1 : W108.frozen? ⟨be, 1, none⟩ = false := Hbe.out.free 1
              have z2 : W108.cell? ⟨be, 2, none⟩ = some (.int .i64 0) := Hbe.out.cell 2
              have f2 : W108.frozen? ⟨be, 2, none⟩ = false := Hbe.out.free 2
              have z3 : W108.cell? ⟨be, 3, none⟩ = some (.int .i64 0) := Hbe.out.cell 3
              have f3 : W108.frozen? ⟨be, 3, none⟩ = false := Hbe.out.free 3
              have z4 : W108.cell? ⟨be, 4, none⟩ = some (.slice none 0 0) := Hbe.out.cell 4
              have f4 : W108.frozen? ⟨be, 4, none⟩ = false := Hbe.out.free 4
              have z5 : W108.cell? ⟨be, 5, none⟩ = some (.bool false) := Hbe.out.cell 5
              have f5 : W108.frozen? ⟨be, 5, none⟩ = false := Hbe.out.free 5
              have z6 : W108.cell? ⟨be, 6, none⟩ = some (.slice none 0 0) := Hbe.out.cell 6
              have f6 : W108.frozen? ⟨be, 6, none⟩ = false := Hbe.out.free 6
              have hne : bs ≠ be := NBE.out
              go_simp
              have hset := set7 Hbe.out (.string ⟨#[97]⟩) (.int .i64 0) (.int .i64 0) (.int .i64 0) (.slice (some ⟨bs, 0, none⟩) 1 1) (.bool false) (.slice none 0 0)
              have hon := only7 W108 be (.string ⟨#[97]⟩) (.int .i64 0) (.int .i64 0) (.int .i64 0) (.slice (some ⟨bs, 0, none⟩) 1 1) (.bool false) (.slice none 0 0)
              have Hbsnn := Lib.hid ((Mv.of_only hon (s := [be]) (by simp)).has Hbsn.out (by rw [List.mem_singleton]; exact hne))
              have HB109 := Lib.hid (hon.below HB108.out HB108.out.size Gbe.out)
              generalize (((((((W108.setCell ⟨be, 0, none⟩ (.string ⟨#[97]⟩)).setCell ⟨be, 1, none⟩ (.int .i64 0)).setCell ⟨be, 2, none⟩ (.int .i64 0)).setCell ⟨be, 3, none⟩ (.int .i64 0)).setCell ⟨be, 4, none⟩ (.slice (some ⟨bs, 0, none⟩) 1 1)).setCell ⟨be, 5, none⟩ (.bool false)).setCell ⟨be, 6, none⟩ (.slice none 0 0)) = W109 at hset hon Hbsnn HB109 ⊢
              have HSET := Lib.hid hset
              clear hset hon hne z0 z1 z2 z3 z4 z5 z6 f0 f1 f2 f3 f4 f5 f6
              refine hK.out _ _ (trivial : TT _) (fun hHeld => ?_)
              clear hK K
              try simp only [Act.put, setIfInBounds_toArray, set_cons_zero, set_cons_succ]
              refine wpAnyH_done (by kernel_rfl) ?_ _
              clear hHeld
              go_wp2_with fail
              go_meet
              exact ⟨be, bs, rfl, Lib.hid ⟨HSET.out, Hbsnn.out, Gbs.out, HB109.out⟩⟩
            · go_simp
              have hbl : Below W105.heap.size W105 (W105.alloc (.cells #[.string ⟨#[]⟩, .int .i64 0, .int .i64 0, .int .i64 0, .slice none 0 0, .bool false, .slice none 0 0] 33)) := (Below.refl _ W105).alloc (Nat.le_refl _) _
              have HB110 := Lib.hid (HB105.out.trans (hbl.mono HB105.out.size))
              have hz := Has.made W105 33 #[.string ⟨#[]⟩, .int .i64 0, .int .i64 0, .int .i64 0, .slice none 0 0, .bool false, .slice none 0 0]
              have Hbbnn := Lib.hid (Hbbn.out.of_alloc (.cells #[.string ⟨#[]⟩, .int .i64 0, .int .i64 0, .int .i64 0, .slice none 0 0, .bool false, .slice none 0 0] 33))
              have Hban := Lib.hid (Hba.out.of_alloc (.cells #[.string ⟨#[]⟩, .int .i64 0, .int .i64 0, .int .i64 0, .slice none 0 0, .bool false, .slice none 0 0] 33))
              generalize W105.alloc (.cells #[.string ⟨#[]⟩, .int .i64 0, .int .i64 0, .int .i64 0, .slice none 0 0, .bool false, .slice none 0 0] 33) = W110 at HB110 hz Hbbnn Hban ⊢
              obtain ⟨be, hbe⟩ : ∃ b, W105.heap.size = b := ⟨_, rfl⟩
              rw [hbe] at hz ⊢
              have Gbe : Hid (w1.heap.size ≤ be) := Lib.hid (by rw [← hbe]; exact HB105.out.size)
              have Hbe := Lib.hid hz
              clear hz hbl hbe
              refine hK.out _ _ (trivial : TT _) (fun hHeld => ?_)
              clear hK K
              try simp only [Act.put, setIfInBounds_toArray, set_cons_zero, set_cons_succ]
              refine takeOne (i := 5) (by kernel_rfl) rfl (by rfl) (fun K hK => ?_)
              go_simp
              have hbl : Below W110.heap.size W110 (W110.alloc (.cells #[.string ⟨#[120]⟩, .string (S z32), .string (S z16), .bool false] 51)) := (Below.refl _ W110).alloc (Nat.le_refl _) _
              have HB111 := Lib.hid (HB110.out.trans (hbl.mono HB110.out.size))
              have hnx : be ≠ W110.heap.size := fun e => by have := Hbe.out.lt; omega
              have hz := Has.made W110 51 #[.string ⟨#[120]⟩, .string (S z32), .string (S z16), .bool false]
              have Hbbnnn := Lib.hid (Hbbnn.out.of_alloc (.cells #[.string ⟨#[120]⟩, .string (S z32), .string (S z16), .bool false] 51))
              have Hbann := Lib.hid (Hban.out.of_alloc (.cells #[.string ⟨#[120]⟩, .string (S z32), .string (S z16), .bool false] 51))
              have Hben := Lib.hid (Hbe.out.of_alloc (.cells #[.string ⟨#[120]⟩, .string (S z32), .string (S z16), .bool false] 51))
              generalize W110.alloc (.cells #[.string ⟨#[120]⟩, .string (S z32), .string (S z16), .bool false] 51) = W111 at HB111 hz Hbbnnn Hbann Hben ⊢
              obtain ⟨bs, hbe⟩ : ∃ b, W110.heap.size = b := ⟨_, rfl⟩
              rw [hbe] at hz hnx ⊢
              have NBE : Hid (bs ≠ be) := Lib.hid (fun e => hnx e.symm)
              clear hnx
              have Gbs : Hid (w1.heap.size ≤ bs) := Lib.hid (by rw [← hbe]; exact HB110.out.size)
              have Hbs := Lib.hid hz
              clear hz hbl hbe
              refine hK.out _ _ (trivial : TT _) (fun hHeld => ?_)
              clear hK K
              try simp only [Act.put, setIfInBounds_toArray, set_cons_zero, set_cons_succ]
              first
              | (refine tkW (i := 6) (v := ?_) rfl rfl ?_ ?_; rotate_left; (focus (intro w hSw; (try dsimp only at hSw); go_simp; first | done | with_reducible rfl)); (simp only [Act.at, setIfInBounds_toArray, set_cons_zero, set_cons_succ]))
              | (refine tkU (i := 6) rfl rfl ?_; (simp only [Act.at, setIfInBounds_toArray, set_cons_zero, set_cons_succ]))
              refine takeOne (i := 8) (by kernel_rfl) rfl (by rfl) (fun K hK => ?_)
              have z0 : W111.cell? ⟨be, 0, none⟩ = some (.string ⟨#[]⟩) := Hben.out.cell 0
              have f0 : W111.frozen? ⟨be, 0, none⟩ = false := Hben.out.free 0
              have z1 : W111.cell? ⟨be, 1, none⟩ = some (.int .i64 0) := Hben.out.cell 1
              have f1 : W111.frozen? ⟨be, 1, none⟩ = false := Hben.out.free 1
              have z2 : W111.cell? ⟨be, 2, none⟩ = some (.int .i64 0) := Hben.out.cell 2
              have f2 : W111.frozen? ⟨be, 2, none⟩ = false := Hben.out.free 2
              have z3 : W111.cell? ⟨be, 3, none⟩ = some (.int .i64 0) := Hben.out.cell 3
              have f3 : W111.frozen? ⟨be, 3, none⟩ = false := Hben.out.free 3
              have z4 : W111.cell? ⟨be, 4, none⟩ = some (.slice none 0 0) := Hben.out.cell 4
              have f4 : W111.frozen? ⟨be, 4, none⟩ = false := Hben.out.free 4
              have z5 : W111.cell? ⟨be, 5, none⟩ = some (.bool false) := Hben.out.cell 5
              have f5 : W111.frozen? ⟨be, 5, none⟩ = false := Hben.out.free 5
              have z6 : W111.cell? ⟨be, 6, none⟩ = some (.slice none 0 0) := Hben.out.cell 6
              have f6 : W111.frozen? ⟨be, 6, none⟩ = false := Hben.out.free 6
              have hne : bs ≠ be := NBE.out
              go_simp
              have hset := set7 Hben.out (.string ⟨#[97]⟩) (.int .i64 0) (.int .i64 0) (.int .i64 0) (.slice (some ⟨bs, 0, none⟩) 1 1) (.bool false) (.slice none 0 0)
              have hon := only7 W111 be (.string ⟨#[97]⟩) (.int .i64 0) (.int .i64 0) (.int .i64 0) (.slice (some ⟨bs, 0, none⟩) 1 1) (.bool false) (.slice none 0 0)
              have Hbsn := Lib.hid ((Mv.of_only hon (s := [be]) (by simp)).has Hbs.out (by rw [List.mem_singleton]; exact hne))
              have HB112 := Lib.hid (hon.below HB111.out HB111.out.size Gbe.out)
              generalize (((((((W111.setCell ⟨be, 0, none⟩ (.string ⟨#[97]⟩)).setCell ⟨be, 1, none⟩ (.int .i64 0)).setCell ⟨be, 2, none⟩ (.int .i64 0)).setCell ⟨be, 3, none⟩ (.int .i64 0)).setCell ⟨be, 4, none⟩ (.slice (some ⟨bs, 0, none⟩) 1 1)).setCell ⟨be, 5, none⟩ (.bool false)).setCell ⟨be, 6, none⟩ (.slice none 0 0)) = W112 at hset hon Hbsn HB112 ⊢
              have HSET := Lib.hid hset
              clear hset hon hne z0 z1 z2 z3 z4 z5 z6 f0 f1 f2 f3 f4 f5 f6
              refine hK.out _ _ (trivial : TT _) (fun hHeld => ?_)
              clear hK K
              try simp only [Act.put, setIfInBounds_toArray, set_cons_zero, set_cons_succ]
              refine wpAnyH_done (by kernel_rfl) ?_ _
              clear hHeld
              go_wp2_with fail
              go_meet
              exact ⟨be, bs, rfl, Lib.hid ⟨HSET.out, Hbsn.out, Gbs.out, HB112.out⟩⟩
          · go_simp
            have hbl : Below W105.heap.size W105 (W105.alloc (.cells #[.string ⟨#[]⟩, .int .i64 0, .int .i64 0, .int .i64 0, .slice none 0 0, .bool false, .slice none 0 0] 33)) := (Below.refl _ W105).alloc (Nat.le_refl _) _
            have HB113 := Lib.hid (HB105.out.trans (hbl.mono HB105.out.size))
            have hz := Has.made W105 33 #[.string ⟨#[]⟩, .int .i64 0, .int .i64 0, .int .i64 0, .slice none 0 0, .bool false, .slice none 0 0]
            have Hbbnn := Lib.hid (Hbbn.out.of_alloc (.cells #[.string ⟨#[]⟩, .int .i64 0, .int .i64 0, .int .i64 0, .slice none 0 0, .bool false, .slice none 0 0] 33))
            have Hban := Lib.hid (Hba.out.of_alloc (.cells #[.string ⟨#[]⟩, .int .i64 0, .int .i64 0, .int .i64 0, .slice none 0 0, .bool false, .slice none 0 0] 33))
            generalize W105.alloc (.cells #[.string ⟨#[]⟩, .int .i64 0, .int .i64 0, .int .i64 0, .slice none 0 0, .bool false, .slice none 0 0] 33) = W113 at HB113 hz Hbbnn Hban ⊢
            obtain ⟨be, hbe⟩ : ∃ b, W105.heap.size = b := ⟨_, rfl⟩
            rw [hbe] at hz ⊢
            have Gbe : Hid (w1.heap.size ≤ be) := Lib.hid (by rw [← hbe]; exact HB105.out.size)
            have Hbe := Lib.hid hz
            clear hz hbl hbe
            refine hK.out _ _ (trivial : TT _) (fun hHeld => ?_)
            clear hK K
            try simp only [Act.put, setIfInBounds_toArray, set_cons_zero, set_cons_succ]
            refine takeOne (i := 1) (by kernel_rfl) rfl (by rfl) (fun K hK => ?_)
            have hcv := cv32 Hban.out
            go_simp
            clear hcv
            refine hK.out _ _ (trivial : TT _) (fun hHeld => ?_)
            clear hK K
            try simp only [Act.put, setIfInBounds_toArray, set_cons_zero, set_cons_succ]
            first
            | (refine tkW (i := 4) (v := ?_) rfl rfl ?_ ?_; rotate_left; (focus (intro w hSw; (try dsimp only at hSw); go_simp; first | done | with_reducible rfl)); (simp only [Act.at, setIfInBounds_toArray, set_cons_zero, set_cons_succ]))
            | (refine tkU (i := 4) rfl rfl ?_; (simp only [Act.at, setIfInBounds_toArray, set_cons_zero, set_cons_succ]))
            refine takeOne (i := 5) (by kernel_rfl) rfl (by rfl) (fun K hK => ?_)
            go_simp
            have hbl : Below W113.heap.size W113 (W113.alloc (.cells #[.string ⟨#[120]⟩, .string (S z32), .string (S z16), .bool false] 51)) := (Below.refl _ W113).alloc (Nat.le_refl _) _
            have HB115 := Lib.hid (HB113.out.trans (hbl.mono HB113.out.size))
            have hnx : be ≠ W113.heap.size := fun e => by have := Hbe.out.lt; omega
            have hz := Has.made W113 51 #[.string ⟨#[120]⟩, .string (S z32), .string (S z16), .bool false]
            have Hbbnnn := Lib.hid (Hbbnn.out.of_alloc (.cells #[.string ⟨#[120]⟩, .string (S z32), .string (S z16), .bool false] 51))
            have Hbann := Lib.hid (Hban.out.of_alloc (.cells #[.string ⟨#[120]⟩, .string (S z32), .string (S z16), .bool false] 51))
            have Hben := Lib.hid (Hbe.out.of_alloc (.cells #[.string ⟨#[120]⟩, .string (S z32), .string (S z16), .bool false] 51))
            generalize W113.alloc (.cells #[.string ⟨#[120]⟩, .string (S z32), .string (S z16), .bool false] 51) = W115 at HB115 hz Hbbnnn Hbann Hben ⊢
            obtain ⟨bs, hbe⟩ : ∃ b, W113.heap.size = b := ⟨_, rfl⟩
            rw [hbe] at hz hnx ⊢
            have NBE : Hid (bs ≠ be) := Lib.hid (fun e => hnx e.symm)
            clear hnx
            have Gbs : Hid (w1.heap.size ≤ bs) := Lib.hid (by rw [← hbe]; exact HB113.out.size)
            have Hbs := Lib.hid hz
            clear hz hbl hbe
            refine hK.out _ _ (trivial : TT _) (fun hHeld => ?_)
            clear hK K
            try simp only [Act.put, setIfInBounds_toArray, set_cons_zero, set_cons_succ]
            first
            | (refine tkW (i := 6) (v := ?_) rfl rfl ?_ ?_; rotate_left; (focus (intro w hSw; (try dsimp only at hSw); go_simp; first | done | with_reducible rfl)); (simp only [Act.at, setIfInBounds_toArray, set_cons_zero, set_cons_succ]))
            | (refine tkU (i := 6) rfl rfl ?_; (simp only [Act.at, setIfInBounds_toArray, set_cons_zero, set_cons_succ]))
            refine takeOne (i := 8) (by kernel_rfl) rfl (by rfl) (fun K hK => ?_)
            have z0 : W115.cell? ⟨be, 0, none⟩ = some (.string ⟨#[]⟩) := Hben.out.cell 0
            have f0 : W115.frozen? ⟨be, 0, none⟩ = false := Hben.out.free 0
            have z1 : W115.cell? ⟨be, 1, none⟩ = some (.int .i64 0) := Hben.out.cell 1
            have f1 : W115.frozen? ⟨be, 1, none⟩ = false := Hben.out.free 1
            have z2 : W115.cell? ⟨be, 2, none⟩ = some (.int .i64 0) := Hben.out.cell 2
            have f2 : W115.frozen? ⟨be, 2, none⟩ = false := Hben.out.free 2
            have z3 : W115.cell? ⟨be, 3, none⟩ = some (.int .i64 0) := Hben.out.cell 3
            have f3 : W115.frozen? ⟨be, 3, none⟩ = false := Hben.out.free 3
            have z4 : W115.cell? ⟨be, 4, none⟩ = some (.slice none 0 0) := Hben.out.cell 4
            have f4 : W115.frozen? ⟨be, 4, none⟩ = false := Hben.out.free 4
            have z5 : W115.cell? ⟨be, 5, none⟩ = some (.bool false) := Hben.out.cell 5
            have f5 : W115.frozen? ⟨be, 5, none⟩ = false := Hben.out.free 5
            have z6 : W115.cell? ⟨be, 6, none⟩ = some (.slice none 0 0) := Hben.out.cell 6
            have f6 : W115.frozen? ⟨be, 6, none⟩ = false := Hben.out.free 6
            have hne : bs ≠ be := NBE.out
            go_simp
            have hset := set7 Hben.out (.string ⟨#[97]⟩) (.int .i64 0) (.int .i64 0) (.int .i64 0) (.slice (some ⟨bs, 0, none⟩) 1 1) (.bool false) (.slice none 0 0)
            have hon := only7 W115 be (.string ⟨#[97]⟩) (.int .i64 0) (.int .i64 0) (.int .i64 0) (.slice (some ⟨bs, 0, none⟩) 1 1) (.bool false) (.slice none 0 0)
            have Hbsn := Lib.hid ((Mv.of_only hon (s := [be]) (by simp)).has Hbs.out (by rw [List.mem_singleton]; exact hne))
            have HB116 := Lib.hid (hon.below HB115.out HB115.out.size Gbe.out)
            generalize (((((((W115.setCell ⟨be, 0, none⟩ (.string ⟨#[97]⟩)).setCell ⟨be, 1, none⟩ (.int .i64 0)).setCell ⟨be, 2, none⟩ (.int .i64 0)).setCell ⟨be, 3, none⟩ (.int .i64 0)).setCell ⟨be, 4, none⟩ (.slice (some ⟨bs, 0, none⟩) 1 1)).setCell ⟨be, 5, none⟩ (.bool false)).setCell ⟨be, 6, none⟩ (.slice none 0 0)) = W116 at hset hon Hbsn HB116 ⊢
            have HSET := Lib.hid hset
            clear hset hon hne z0 z1 z2 z3 z4 z5 z6 f0 f1 f2 f3 f4 f5 f6
            refine hK.out _ _ (trivial : TT _) (fun hHeld => ?_)
            clear hK K
            try simp only [Act.put, setIfInBounds_toArray, set_cons_zero, set_cons_succ]
            refine wpAnyH_done (by kernel_rfl) ?_ _
            clear hHeld
            go_wp2_with fail
            go_meet
            exact ⟨be, bs, rfl, Lib.hid ⟨HSET.out, Hbsn.out, Gbs.out, HB116.out⟩⟩
        · go_simp
          have hbl : Below W69.heap.size W69 (W69.alloc (.cells #[.string ⟨#[]⟩, .int .i64 0, .int .i64 0, .int .i64 0, .slice none 0 0, .bool false, .slice none 0 0] 33)) := (Below.refl _ W69).alloc (Nat.le_refl _) _
          have HB117 := Lib.hid (HB69.out.trans (hbl.mono HB69.out.size))
          have hz := Has.made W69 33 #[.string ⟨#[]⟩, .int .i64 0, .int .i64 0, .int .i64 0, .slice none 0 0, .bool false, .slice none 0 0]
          have Hbbn := Lib.hid (Hbb.out.of_alloc (.cells #[.string ⟨#[]⟩, .int .i64 0, .int .i64 0, .int .i64 0, .slice none 0 0, .bool false, .slice none 0 0] 33))
          generalize W69.alloc (.cells #[.string ⟨#[]⟩, .int .i64 0, .int .i64 0, .int .i64 0, .slice none 0 0, .bool false, .slice none 0 0] 33) = W117 at HB117 hz Hbbn ⊢
          obtain ⟨be, hbe⟩ : ∃ b, W69.heap.size = b := ⟨_, rfl⟩
          rw [hbe] at hz ⊢
          have Gbe : Hid (w1.heap.size ≤ be) := Lib.hid (by rw [← hbe]; exact HB69.out.size)
          have Hbe := Lib.hid hz
          clear hz hbl hbe
          refine hK.out _ _ (trivial : TT _) (fun hHeld => ?_)
          clear hK K
          try simp only [Act.put, setIfInBounds_toArray, set_cons_zero, set_cons_succ]
          refine takeOne (i := 0) (by kernel_rfl) rfl (by rfl) (fun K hK => ?_)
          go_simp
          have hbl : Below W117.heap.size W117 (W117.alloc (.cells (fillc 0 32 0) 5)) := (Below.refl _ W117).alloc (Nat.le_refl _) _
          have HB118 := Lib.hid (HB117.out.trans (hbl.mono HB117.out.size))
          have hz := Has.made W117 5 (fillc 0 32 0)
          have Hbbnn := Lib.hid (Hbbn.out.of_alloc (.cells (fillc 0 32 0) 5))
          have Hben := Lib.hid (Hbe.out.of_alloc (.cells (fillc 0 32 0) 5))
          generalize W117.alloc (.cells (fillc 0 32 0) 5) = W118 at HB118 hz Hbbnn Hben ⊢
          obtain ⟨ba, hbe⟩ : ∃ b, W117.heap.size = b := ⟨_, rfl⟩
          rw [hbe] at hz ⊢
          have Gba : Hid (w1.heap.size ≤ ba) := Lib.hid (by rw [← hbe]; exact HB117.out.size)
          have Hba := Lib.hid hz
          clear hz hbl hbe
          refine hK.out _ _ (trivial : TT _) (fun hHeld => ?_)
          clear hK K
          try simp only [Act.put, setIfInBounds_toArray, set_cons_zero, set_cons_succ]
          refine takeOne (i := 1) (by kernel_rfl) rfl (by rfl) (fun K hK => ?_)
          have hcv := cv32 Hba.out
          go_simp
          clear hcv
          refine hK.out _ _ (trivial : TT _) (fun hHeld => ?_)
          clear hK K
          try simp only [Act.put, setIfInBounds_toArray, set_cons_zero, set_cons_succ]
          first
          | (refine tkW (i := 4) (v := ?_) rfl rfl ?_ ?_; rotate_left; (focus (intro w hSw; (try dsimp only at hSw); go_simp; first | done | with_reducible rfl)); (simp only [Act.at, setIfInBounds_toArray, set_cons_zero, set_cons_succ]))
          | (refine tkU (i := 4) rfl rfl ?_; (simp only [Act.at, setIfInBounds_toArray, set_cons_zero, set_cons_succ]))
          refine takeOne (i := 5) (by kernel_rfl) rfl (by rfl) (fun K hK => ?_)
          go_simp
          have hbl : Below W118.heap.size W118 (W118.alloc (.cells #[.string ⟨#[120]⟩, .string (S z32), .string (S z16), .bool false] 51)) := (Below.refl _ W118).alloc (Nat.le_refl _) _
          have HB120 := Lib.hid (HB118.out.trans (hbl.mono HB118.out.size))
          have hnx : be ≠ W118.heap.size := fun e => by have := Hben.out.lt; omega
          have hz := Has.made W118 51 #[.string ⟨#[120]⟩, .string (S z32), .string (S z16), .bool false]
          have Hbbnnn := Lib.hid (Hbbnn.out.of_alloc (.cells #[.string ⟨#[120]⟩, .string (S z32), .string (S z16), .bool false] 51))
          have Hbenn := Lib.hid (Hben.out.of_alloc (.cells #[.string ⟨#[120]⟩, .string (S z32), .string (S z16), .bool false] 51))
          have Hban := Lib.hid (Hba.out.of_alloc (.cells #[.string ⟨#[120]⟩, .string (S z32), .string (S z16), .bool false] 51))
          generalize W118.alloc (.cells #[.string ⟨#[120]⟩, .string (S z32), .string (S z16), .bool false] 51) = W120 at HB120 hz Hbbnnn Hbenn Hban ⊢
          obtain ⟨bs, hbe⟩ : ∃ b, W118.heap.size = b := ⟨_, rfl⟩
          rw [hbe] at hz hnx ⊢
          have NBE : Hid (bs ≠ be) := Lib.hid (fun e => hnx e.symm)
          clear hnx
          have Gbs : Hid (w1.heap.size ≤ bs) := Lib.hid (by rw [← hbe]; exact HB118.out.size)
          have Hbs := Lib.hid hz
          clear hz hbl hbe
          refine hK.out _ _ (trivial : TT _) (fun hHeld => ?_)
          clear hK K
          try simp only [Act.put, setIfInBounds_toArray, set_cons_zero, set_cons_succ]
          first
          | (refine tkW (i := 6) (v := ?_) rfl rfl ?_ ?_; rotate_left; (focus (intro w hSw; (try dsimp only at hSw); go_simp; first | done | with_reducible rfl)); (simp only [Act.at, setIfInBounds_toArray, set_cons_zero, set_cons_succ]))
          | (refine tkU (i := 6) rfl rfl ?_; (simp only [Act.at, setIfInBounds_toArray, set_cons_zero, set_cons_succ]))
          refine takeOne (i := 8) (by kernel_rfl) rfl (by rfl) (fun K hK => ?_)
          have z0 : W120.cell? ⟨be, 0, none⟩ = some (.string ⟨#[]⟩) := Hbenn.out.cell 0
          have f0 : W120.frozen? ⟨be, 0, none⟩ = false := Hbenn.out.free 0
          have z1 : W120.cell? ⟨be, 1, none⟩ = some (.int .i64 0) := Hbenn.out.cell 1
          have f1 : W120.frozen? ⟨be, 1, none⟩ = false := Hbenn.out.free 1
          have z2 : W120.cell? ⟨be, 2, none⟩ = some (.int .i64 0) := Hbenn.out.cell 2
          have f2 : W120.frozen? ⟨be, 2, none⟩ = false := Hbenn.out.free 2
          have z3 : W120.cell? ⟨be, 3, none⟩ = some (.int .i64 0) := Hbenn.out.cell 3
          have f3 : W120.frozen? ⟨be, 3, none⟩ = false := Hbenn.out.free 3
          have z4 : W120.cell? ⟨be, 4, none⟩ = some (.slice none 0 0) := Hbenn.out.cell 4
          have f4 : W120.frozen? ⟨be, 4, none⟩ = false := Hbenn.out.free 4
          have z5 : W120.cell? ⟨be, 5, none⟩ = some (.bool false) := Hbenn.out.cell 5
          have f5 : W120.frozen? ⟨be, 5, none⟩ = false := Hbenn.out.free 5
          have z6 : W120.cell? ⟨be, 6, none⟩ = some (.slice none 0 0) := Hbenn.out.cell 6
          have f6 : W120.frozen? ⟨be, 6, none⟩ = false := Hbenn.out.free 6
          have hne : bs ≠ be := NBE.out
          go_simp
          have hset := set7 Hbenn.out (.string ⟨#[97]⟩) (.int .i64 0) (.int .i64 0) (.int .i64 0) (.slice (some ⟨bs, 0, none⟩) 1 1) (.bool false) (.slice none 0 0)
          have hon := only7 W120 be (.string ⟨#[97]⟩) (.int .i64 0) (.int .i64 0) (.int .i64 0) (.slice (some ⟨bs, 0, none⟩) 1 1) (.bool false) (.slice none 0 0)
          have Hbsn := Lib.hid ((Mv.of_only hon (s := [be]) (by simp)).has Hbs.out (by rw [List.mem_singleton]; exact hne))
          have HB121 := Lib.hid (hon.below HB120.out HB120.out.size Gbe.out)
          generalize (((((((W120.setCell ⟨be, 0, none⟩ (.string ⟨#[97]⟩)).setCell ⟨be, 1, none⟩ (.int .i64 0)).setCell ⟨be, 2, none⟩ (.int .i64 0)).setCell ⟨be, 3, none⟩ (.int .i64 0)).setCell ⟨be, 4, none⟩ (.slice (some ⟨bs, 0, none⟩) 1 1)).setCell ⟨be, 5, none⟩ (.bool false)).setCell ⟨be, 6, none⟩ (.slice none 0 0)) = W121 at hset hon Hbsn HB121 ⊢
          have HSET := Lib.hid hset
          clear hset hon hne z0 z1 z2 z3 z4 z5 z6 f0 f1 f2 f3 f4 f5 f6
          refine hK.out _ _ (trivial : TT _) (fun hHeld => ?_)
          clear hK K
          try simp only [Act.put, setIfInBounds_toArray, set_cons_zero, set_cons_succ]
          refine wpAnyH_done (by kernel_rfl) ?_ _
          clear hHeld
          go_wp2_with fail
          go_meet
          exact ⟨be, bs, rfl, Lib.hid ⟨HSET.out, Hbsn.out, Gbs.out, HB121.out⟩⟩
      · go_simp
        have hbl : Below W69.heap.size W69 (W69.alloc (.cells #[.string ⟨#[]⟩, .int .i64 0, .int .i64 0, .int .i64 0, .slice none 0 0, .bool false, .slice none 0 0] 33)) := (Below.refl _ W69).alloc (Nat.le_refl _) _
        have HB122 := Lib.hid (HB69.out.trans (hbl.mono HB69.out.size))
        have hz := Has.made W69 33 #[.string ⟨#[]⟩, .int .i64 0, .int .i64 0, .int .i64 0, .slice none 0 0, .bool false, .slice none 0 0]
        have Hbbn := Lib.hid (Hbb.out.of_alloc (.cells #[.string ⟨#[]⟩, .int .i64 0, .int .i64 0, .int .i64 0, .slice none 0 0, .bool false, .slice none 0 0] 33))
        generalize W69.alloc (.cells #[.string ⟨#[]⟩, .int .i64 0, .int .i64 0, .int .i64 0, .slice none 0 0, .bool false, .slice none 0 0] 33) = W122 at HB122 hz Hbbn ⊢
        obtain ⟨be, hbe⟩ : ∃ b, W69.heap.size = b := ⟨_, rfl⟩
        rw [hbe] at hz ⊢
        have Gbe : Hid (w1.heap.size ≤ be) := Lib.hid (by rw [← hbe]; exact HB69.out.size)
        have Hbe := Lib.hid hz
        clear hz hbl hbe
        refine hK.out _ _ (trivial : TT _) (fun hHeld => ?_)
        clear hK K
        try simp only [Act.put, setIfInBounds_toArray, set_cons_zero, set_cons_succ]
        refine takeTwo (i := 0) (j := 3) (by kernel_rfl) rfl rfl (by rfl) (by rfl) (fun K hK => ?_) (fun K hK => ?_)
        · go_simp
          have hbl : Below W122.heap.size W122 (W122.alloc (.cells (fillc 0 32 0) 5)) := (Below.refl _ W122).alloc (Nat.le_refl _) _
          have HB123 := Lib.hid (HB122.out.trans (hbl.mono HB122.out.size))
          have hz := Has.made W122 5 (fillc 0 32 0)
          have Hbbnn := Lib.hid (Hbbn.out.of_alloc (.cells (fillc 0 32 0) 5))
          have Hben := Lib.hid (Hbe.out.of_alloc (.cells (fillc 0 32 0) 5))
          generalize W122.alloc (.cells (fillc 0 32 0) 5) = W123 at HB123 hz Hbbnn Hben ⊢
          obtain ⟨ba, hbe⟩ : ∃ b, W122.heap.size = b := ⟨_, rfl⟩
          rw [hbe] at hz ⊢
          have Gba : Hid (w1.heap.size ≤ ba) := Lib.hid (by rw [← hbe]; exact HB122.out.size)
          have Hba := Lib.hid hz
          clear hz hbl hbe
          refine hK.out _ _ (trivial : TT _) (fun hHeld => ?_)
          clear hK K
          try simp only [Act.put, setIfInBounds_toArray, set_cons_zero, set_cons_succ]
          refine takeTwo (i := 1) (j := 3) (by kernel_rfl) rfl rfl (by rfl) (by rfl) (fun K hK => ?_) (fun K hK => ?_)
          · have hcv := cv32 Hba.out
            go_simp
            clear hcv
            refine hK.out _ _ (trivial : TT _) (fun hHeld => ?_)
            clear hK K
            try simp only [Act.put, setIfInBounds_toArray, set_cons_zero, set_cons_succ]
            refine takeOne (i := 3) (by kernel_rfl) rfl (by rfl) (fun K hK => ?_)
            have hcv := cv16 Hbbnn.out
            go_simp
            clear hcv
            refine hK.out _ _ (trivial : TT _) (fun hHeld => ?_)
            clear hK K
            try simp only [Act.put, setIfInBounds_toArray, set_cons_zero, set_cons_succ]
            first
            | (refine tkW (i := 4) (v := ?_) rfl rfl ?_ ?_; rotate_left; (focus (intro w hSw; (try dsimp only at hSw); go_simp; first | done | with_reducible rfl)); (simp only [Act.at, setIfInBounds_toArray, set_cons_zero, set_cons_succ]))
            | (refine tkU (i := 4) rfl rfl ?_; (simp only [Act.at, setIfInBounds_toArray, set_cons_zero, set_cons_succ]))
            refine takeOne (i := 5) (by kernel_rfl) rfl (by rfl) (fun K hK => ?_)
            go_simp
            have hbl : Below W123.heap.size W123 (W123.alloc (.cells #[.string ⟨#[120]⟩, .string (S z32), .string (S z16), .bool false] 51)) := (Below.refl _ W123).alloc (Nat.le_refl _) _
            have HB126 := Lib.hid (HB123.out.trans (hbl.mono HB123.out.size))
            have hnx : be ≠ W123.heap.size := fun e => by have := Hben.out.lt; omega
            have hz := Has.made W123 51 #[.string ⟨#[120]⟩, .string (S z32), .string (S z16), .bool false]
            have Hbbnnn := Lib.hid (Hbbnn.out.of_alloc (.cells #[.string ⟨#[120]⟩, .string (S z32), .string (S z16), .bool false] 51))
            have Hbenn := Lib.hid (Hben.out.of_alloc (.cells #[.string ⟨#[120]⟩, .string (S z32), .string (S z16), .bool false] 51))
            have Hban := Lib.hid (Hba.out.of_alloc (.cells #[.string ⟨#[120]⟩, .string (S z32), .string (S z16), .bool false] 51))
            generalize W123.alloc (.cells #[.string ⟨#[120]⟩, .string (S z32), .string (S z16), .bool false] 51) = W126 at HB126 hz Hbbnnn Hbenn Hban ⊢
            obtain ⟨bs, hbe⟩ : ∃ b, W123.heap.size = b := ⟨_, rfl⟩
            rw [hbe] at hz hnx ⊢
            have NBE : Hid (bs ≠ be) := Lib.hid (fun e => hnx e.symm)
            clear hnx
            have Gbs : Hid (w1.heap.size ≤ bs) := Lib.hid (by rw [← hbe]; exact HB123.out.size)
            have Hbs := Lib.hid hz
            clear hz hbl hbe
            refine hK.out _ _ (trivial : TT _) (fun hHeld => ?_)
            clear hK K
            try simp only [Act.put, setIfInBounds_toArray, set_cons_zero, set_cons_succ]
            first
            | (refine tkW (i := 6) (v := ?_) rfl rfl ?_ ?_; rotate_left; (focus (intro w hSw; (try dsimp only at hSw); go_simp; first | done | with_reducible rfl)); (simp only [Act.at, setIfInBounds_toArray, set_cons_zero, set_cons_succ]))
            | (refine tkU (i := 6) rfl rfl ?_; (simp only [Act.at, setIfInBounds_toArray, set_cons_zero, set_cons_succ]))
            refine takeOne (i := 8) (by kernel_rfl) rfl (by rfl) (fun K hK => ?_)
            have z0 : W126.cell? ⟨be, 0, none⟩ = some (.string ⟨#[]⟩) := Hbenn.out.cell 0
            have f0 : W126.frozen? ⟨be, 0, none⟩ = false := Hbenn.out.free 0
            have z1 : W126.cell? ⟨be, 1, none⟩ = some (.int .i64 0) := Hbenn.out.cell 1
            have f1 : W126.frozen? ⟨be, 1, none⟩ = false := Hbenn.out.free 1
            have z2 : W126.cell? ⟨be, 2, none⟩ = some (.int .i64 0) := Hbenn.out.cell 2
            have f2 : W126.frozen? ⟨be, 2, none⟩ = false := Hbenn.out.free 2
            have z3 : W126.cell? ⟨be, 3, none⟩ = some (.int .i64 0) := Hbenn.out.cell 3
            have f3 : W126.frozen? ⟨be, 3, none⟩ = false := Hbenn.out.free 3
            have z4 : W126.cell? ⟨be, 4, none⟩ = some (.slice none 0 0) := Hbenn.out.cell 4
            have f4 : W126.frozen? ⟨be, 4, none⟩ = false := Hbenn.out.free 4
            have z5 : W126.cell? ⟨be, 5, none⟩ = some (.bool false) := Hbenn.out.cell 5
            have f5 : W126.frozen? ⟨be, 5, none⟩ = false := Hbenn.out.free 5
            have z6 : W126.cell? ⟨be, 6, none⟩ = some (.slice none 0 0) := Hbenn.out.cell 6
            have f6 : W126.frozen? ⟨be, 6, none⟩ = false := Hbenn.out.free 6
            have hne : bs ≠ be := NBE.out
            go_simp
            have hset := set7 Hbenn.out (.string ⟨#[97]⟩) (.int .i64 0) (.int .i64 0) (.int .i64 0) (.slice (some ⟨bs, 0, none⟩) 1 1) (.bool false) (.slice none 0 0)
            have hon := only7 W126 be (.string ⟨#[97]⟩) (.int .i64 0) (.int .i64 0) (.int .i64 0) (.slice (some ⟨bs, 0, none⟩) 1 1) (.bool false) (.slice none 0 0)
            have Hbsn := Lib.hid ((Mv.of_only hon (s := [be]) (by simp)).has Hbs.out (by rw [List.mem_singleton]; exact hne))
            have HB127 := Lib.hid (hon.below HB126.out HB126.out.size Gbe.out)
            generalize (((((((W126.setCell ⟨be, 0, none⟩ (.string ⟨#[97]⟩)).setCell ⟨be, 1, none⟩ (.int .i64 0)).setCell ⟨be, 2, none⟩ (.int .i64 0)).setCell ⟨be, 3, none⟩ (.int .i64 0)).setCell ⟨be, 4, none⟩ (.slice (some ⟨bs, 0, none⟩) 1 1)).setCell ⟨be, 5, none⟩ (.bool false)).setCell ⟨be, 6, none⟩ (.slice none 0 0)) = W127 at hset hon Hbsn HB127 ⊢
            have HSET := Lib.hid hset
            clear hset hon hne z0 z1 z2 z3 z4 z5 z6 f0 f1 f2 f3 f4 f5 f6
            refine hK.out _ _ (trivial : TT _) (fun hHeld => ?_)
            clear hK K
            try simp only [Act.put, setIfInBounds_toArray, set_cons_zero, set_cons_succ]
            refine wpAnyH_done (by kernel_rfl) ?_ _
            clear hHeld
            go_wp2_with fail
            go_meet
            exact ⟨be, bs, rfl, Lib.hid ⟨HSET.out, Hbsn.out, Gbs.out, HB127.out⟩⟩
          · have hcv := cv16 Hbbnn.out
            go_simp
            clear hcv
            refine hK.out _ _ (trivial : TT _) (fun hHeld => ?_)
            clear hK K
            try simp only [Act.put, setIfInBounds_toArray, set_cons_zero, set_cons_succ]
            refine takeOne (i := 1) (by kernel_rfl) rfl (by rfl) (fun K hK => ?_)
            have hcv := cv32 Hba.out
            go_simp
            clear hcv
            refine hK.out _ _ (trivial : TT _) (fun hHeld => ?_)
            clear hK K
            try simp only [Act.put, setIfInBounds_toArray, set_cons_zero, set_cons_succ]
            first
            | (refine tkW (i := 4) (v := ?_) rfl rfl ?_ ?_; rotate_left; (focus (intro w hSw; (try dsimp only at hSw); go_simp; first | done | with_reducible rfl)); (simp only [Act.at, setIfInBounds_toArray, set_cons_zero, set_cons_succ]))
            | (refine tkU (i := 4) rfl rfl ?_; (simp only [Act.at, setIfInBounds_toArray, set_cons_zero, set_cons_succ]))
            refine takeOne (i := 5) (by kernel_rfl) rfl (by rfl) (fun K hK => ?_)
            go_simp
            have hbl : Below W123.heap.size W123 (W123.alloc (.cells #[.string ⟨#[120]⟩, .string (S z32), .string (S z16), .bool false] 51)) := (Below.refl _ W123).alloc (Nat.le_refl _) _
            have HB130 := Lib.hid (HB123.out.trans (hbl.mono HB123.out.size))
            have hnx : be ≠ W123.heap.size := fun e => by have := Hben.out.lt; omega
            have hz := Has.made W123 51 #[.string ⟨#[120]⟩, .string (S z32), .string (S z16), .bool false]
            have Hbbnnn := Lib.hid (Hbbnn.out.of_alloc (.cells #[.string ⟨#[120]⟩, .string (S z32), .string (S z16), .bool false] 51))
            have Hbenn := Lib.hid (Hben.out.of_alloc (.cells #[.string ⟨#[120]⟩, .string (S z32), .string (S z16), .bool false] 51))
            have Hban := Lib.hid (Hba.out.of_alloc (.cells #[.string ⟨#[120]⟩, .string (S z32), .string (S z16), .bool false] 51))
            generalize W123.alloc (.cells #[.string ⟨#[120]⟩, .string (S z32), .string (S z16), .bool false] 51) = W130 at HB130 hz Hbbnnn Hbenn Hban ⊢
            obtain ⟨bs, hbe⟩ : ∃ b, W123.heap.size = b := ⟨_, rfl⟩
            rw [hbe] at hz hnx ⊢
            have NBE : Hid (bs ≠ be) := Lib.hid (fun e => hnx e.symm)
            clear hnx
            have Gbs : Hid (w1.heap.size ≤ bs) := Lib.hid (by rw [← hbe]; exact HB123.out.size)
            have Hbs := Lib.hid hz
            clear hz hbl hbe
            refine hK.out _ _ (trivial : TT _) (fun hHeld => ?_)
            clear hK K
            try simp only [Act.put, setIfInBounds_toArray, set_cons_zero, set_cons_succ]
            first
            | (refine tkW (i := 6) (v := ?_) rfl rfl ?_ ?_; rotate_left; (focus (intro w hSw; (try dsimp only at hSw); go_simp; first | done | with_reducible rfl)); (simp only [Act.at, setIfInBounds_toArray, set_cons_zero, set_cons_succ]))
            | (refine tkU (i := 6) rfl rfl ?_; (simp only [Act.at, setIfInBounds_toArray, set_cons_zero, set_cons_succ]))
            refine takeOne (i := 8) (by kernel_rfl) rfl (by rfl) (fun K hK => ?_)
            have z0 : W130.cell? ⟨be, 0, none⟩ = some (.string ⟨#[]⟩) := Hbenn.out.cell 0
            have f0 : W130.frozen? ⟨be, 0, none⟩ = false := Hbenn.out.free 0
            have z1 : W130.cell? ⟨be, 1, none⟩ = some (.int .i64 0) := Hbenn.out.cell 1
            have f1 : W130.frozen? ⟨be, 1, none⟩ = false := Hbenn.out.free 1
            have z2 : W130.cell? ⟨be, 2, none⟩ = some (.int .i64 0) := Hbenn.out.cell 2
            have f2 : W130.frozen? ⟨be, 2, none⟩ = false := Hbenn.out.free 2
            have z3 : W130.cell? ⟨be, 3, none⟩ = some (.int .i64 0) := Hbenn.out.cell 3
            have f3 : W130.frozen? ⟨be, 3, none⟩ = false := Hbenn.out.free 3
            have z4 : W130.cell? ⟨be, 4, none⟩ = some (.slice none 0 0) := Hbenn.out.cell 4
            have f4 : W130.frozen? ⟨be, 4, none⟩ = false := Hbenn.out.free 4
            have z5 : W130.cell? ⟨be, 5, none⟩ = some (.bool false) := Hbenn.out.cell 5
            have f5 : W130.frozen? ⟨be, 5, none⟩ = false := Hbenn.out.free 5
            have z6 : W130.cell? ⟨be, 6, none⟩ = some (.slice none 0 0) := Hbenn.out.cell 6
            have f6 : W130.frozen? ⟨be, 6, none⟩ = false := Hbenn.out.free 6
            have hne : bs ≠ be := NBE.out
            go_simp
            have hset := set7 Hbenn.out (.string ⟨#[97]⟩) (.int .i64 0) (.int .i64 0) (.int .i64 0) (.slice (some ⟨bs, 0, none⟩) 1 1) (.bool false) (.slice none 0 0)
            have hon := only7 W130 be (.string ⟨#[97]⟩) (.int .i64 0) (.int .i64 0) (.int .i64 0) (.slice (some ⟨bs, 0, none⟩) 1 1) (.bool false) (.slice none 0 0)
            have Hbsn := Lib.hid ((Mv.of_only hon (s := [be]) (by simp)).has Hbs.out (by rw [List.mem_singleton]; exact hne))
            have HB131 := Lib.hid (hon.below HB130.out HB130.out.size Gbe.out)
            generalize (((((((W130.setCell ⟨be, 0, none⟩ (.string ⟨#[97]⟩)).setCell ⟨be, 1, none⟩ (.int .i64 0)).setCell ⟨be, 2, none⟩ (.int .i64 0)).setCell ⟨be, 3, none⟩ (.int .i64 0)).setCell ⟨be, 4, none⟩ (.slice (some ⟨bs, 0, none⟩) 1 1)).setCell ⟨be, 5, none⟩ (.bool false)).setCell ⟨be, 6, none⟩ (.slice none 0 0)) = W131 at hset hon Hbsn HB131 ⊢
            have HSET := Lib.hid hset
            clear hset hon hne z0 z1 z2 z3 z4 z5 z6 f0 f1 f2 f3 f4 f5 f6
            refine hK.out _ _ (trivial : TT _) (fun hHeld => ?_)
            clear hK K
            try simp only [Act.put, setIfInBounds_toArray, set_cons_zero, set_cons_succ]
            refine wpAnyH_done (by kernel_rfl) ?_ _
            clear hHeld
            go_wp2_with fail
            go_meet
            exact ⟨be, bs, rfl, Lib.hid ⟨HSET.out, Hbsn.out, Gbs.out, HB131.out⟩⟩
        · have hcv := cv16 Hbbn.out
          go_simp
          clear hcv
          refine hK.out _ _ (trivial : TT _) (fun hHeld => ?_)
          clear hK K
          try simp only [Act.put, setIfInBounds_toArray, set_cons_zero, set_cons_succ]
          refine takeOne (i := 0) (by kernel_rfl) rfl (by rfl) (fun K hK => ?_)
          go_simp
          have hbl : Below W122.heap.size W122 (W122.alloc (.cells (fillc 0 32 0) 5)) := (Below.refl _ W122).alloc (Nat.le_refl _) _
          have HB133 := Lib.hid (HB122.out.trans (hbl.mono HB122.out.size))
          have hz := Has.made W122 5 (fillc 0 32 0)
          have Hbbnn := Lib.hid (Hbbn.out.of_alloc (.cells (fillc 0 32 0) 5))
          have Hben := Lib.hid (Hbe.out.of_alloc (.cells (fillc 0 32 0) 5))
          generalize W122.alloc (.cells (fillc 0 32 0) 5) = W133 at HB133 hz Hbbnn Hben ⊢
          obtain ⟨ba, hbe⟩ : ∃ b, W122.heap.size = b := ⟨_, rfl⟩
          rw [hbe] at hz ⊢
          have Gba : Hid (w1.heap.size ≤ ba) := Lib.hid (by rw [← hbe]; exact HB122.out.size)
          have Hba := Lib.hid hz
          clear hz hbl hbe
          refine hK.out _ _ (trivial : TT _) (fun hHeld => ?_)
          clear hK K
          try simp only [Act.put, setIfInBounds_toArray, set_cons_zero, set_cons_succ]
          refine takeOne (i := 1) (by kernel_rfl) rfl (by rfl) (fun K hK => ?_)
          have hcv := cv32 Hba.out
          go_simp
          clear hcv
          refine hK.out _ _ (trivial : TT _) (fun hHeld => ?_)
          clear hK K
          try simp only [Act.put, setIfInBounds_toArray, set_cons_zero, set_cons_succ]
          first
          | (refine tkW (i := 4) (v := ?_) rfl rfl ?_ ?_; rotate_left; (focus (intro w hSw; (try dsimp only at hSw); go_simp; first | done | with_reducible rfl)); (simp only [Act.at, setIfInBounds_toArray, set_cons_zero, set_cons_succ]))
          | (refine tkU (i := 4) rfl rfl ?_; (simp only [Act.at, setIfInBounds_toArray, set_cons_zero, set_cons_succ]))
          refine takeOne (i := 5) (by kernel_rfl) rfl (by rfl) (fun K hK => ?_)
          go_simp
          have hbl : Below W133.heap.size W133 (W133.alloc (.cells #[.string ⟨#[120]⟩, .string (S z32), .string (S z16), .bool false] 51)) := (Below.refl _ W133).alloc (Nat.le_refl _) _
          have HB135 := Lib.hid (HB133.out.trans (hbl.mono HB133.out.size))
          have hnx : be ≠ W133.heap.size := fun e => by have := Hben.out.lt; omega
          have hz := Has.made W133 51 #[.string ⟨#[120]⟩, .string (S z32), .string (S z16), .bool false]
          have Hbbnnn := Lib.hid (Hbbnn.out.of_alloc (.cells #[.string ⟨#[120]⟩, .string (S z32), .string (S z16), .bool false] 51))
          have Hbenn := Lib.hid (Hben.out.of_alloc (.cells #[.string ⟨#[120]⟩, .string (S z32), .string (S z16), .bool false] 51))
          have Hban := Lib.hid (Hba.out.of_alloc (.cells #[.string ⟨#[120]⟩, .string (S z32), .string (S z16), .bool false] 51))
          generalize W133.alloc (.cells #[.string ⟨#[120]⟩, .string (S z32), .string (S z16), .bool false] 51) = W135 at HB135 hz Hbbnnn Hbenn Hban ⊢
          obtain ⟨bs, hbe⟩ : ∃ b, W133.heap.size = b := ⟨_, rfl⟩
          rw [hbe] at hz hnx ⊢
          have NBE : Hid (bs ≠ be) := Lib.hid (fun e => hnx e.symm)
          clear hnx
          have Gbs : Hid (w1.heap.size ≤ bs) := Lib.hid (by rw [← hbe]; exact HB133.out.size)
          have Hbs := Lib.hid hz
          clear hz hbl hbe
          refine hK.out _ _ (trivial : TT _) (fun hHeld => ?_)
          clear hK K
          try simp only [Act.put, setIfInBounds_toArray, set_cons_zero, set_cons_succ]
          first
          | (refine tkW (i := 6) (v := ?_) rfl rfl ?_ ?_; rotate_left; (focus (intro w hSw; (try dsimp only at hSw); go_simp; first | done | with_reducible rfl)); (simp only [Act.at, setIfInBounds_toArray, set_cons_zero, set_cons_succ]))
          | (refine tkU (i := 6) rfl rfl ?_; (simp only [Act.at, setIfInBounds_toArray, set_cons_zero, set_cons_succ]))
          refine takeOne (i := 8) (by kernel_rfl) rfl (by rfl) (fun K hK => ?_)
          have z0 : W135.cell? ⟨be, 0, none⟩ = some (.string ⟨#[]⟩) := Hbenn.out.cell 0
          have f0 : W135.frozen? ⟨be, 0, none⟩ = false := Hbenn.out.free 0
          have z1 : W135.cell? ⟨be, 1, none⟩ = some (.int .i64 0) := Hbenn.out.cell 1
          have f1 : W135.frozen? ⟨be, 1, none⟩ = false := Hbenn.out.free 1
          have z2 : W135.cell? ⟨be, 2, none⟩ = some (.int .i64 0) := Hbenn.out.cell 2
          have f2 : W135.frozen? ⟨be, 2, none⟩ = false := Hbenn.out.free 2
          have z3 : W135.cell? ⟨be, 3, none⟩ = some (.int .i64 0) := Hbenn.out.cell 3
          have f3 : W135.frozen? ⟨be, 3, none⟩ = false := Hbenn.out.free 3
          have z4 : W135.cell? ⟨be, 4, none⟩ = some (.slice none 0 0) := Hbenn.out.cell 4
          have f4 : W135.frozen? ⟨be, 4, none⟩ = false := Hbenn.out.free 4
          have z5 : W135.cell? ⟨be, 5, none⟩ = some (.bool false) := Hbenn.out.cell 5
          have f5 : W135.frozen? ⟨be, 5, none⟩ = false := Hbenn.out.free 5
          have z6 : W135.cell? ⟨be, 6, none⟩ = some (.slice none 0 0) := Hbenn.out.cell 6
          have f6 : W135.frozen? ⟨be, 6, none⟩ = false := Hbenn.out.free 6
          have hne : bs ≠ be := NBE.out
          go_simp
          have hset := set7 Hbenn.out (.string ⟨#[97]⟩) (.int .i64 0) (.int .i64 0) (.int .i64 0) (.slice (some ⟨bs, 0, none⟩) 1 1) (.bool false) (.slice none 0 0)
          have hon := only7 W135 be (.string ⟨#[97]⟩) (.int .i64 0) (.int .i64 0) (.int .i64 0) (.slice (some ⟨bs, 0, none⟩) 1 1) (.bool false) (.slice none 0 0)
          have Hbsn := Lib.hid ((Mv.of_only hon (s := [be]) (by simp)).has Hbs.out (by rw [List.mem_singleton]; exact hne))
          have HB136 := Lib.hid (hon.below HB135.out HB135.out.size Gbe.out)
          generalize (((((((W135.setCell ⟨be, 0, none⟩ (.string ⟨#[97]⟩)).setCell ⟨be, 1, none⟩ (.int .i64 0)).setCell ⟨be, 2, none⟩ (.int .i64 0)).setCell ⟨be, 3, none⟩ (.int .i64 0)).setCell ⟨be, 4, none⟩ (.slice (some ⟨bs, 0, none⟩) 1 1)).setCell ⟨be, 5, none⟩ (.bool false)).setCell ⟨be, 6, none⟩ (.slice none 0 0)) = W136 at hset hon Hbsn HB136 ⊢
          have HSET := Lib.hid hset
          clear hset hon hne z0 z1 z2 z3 z4 z5 z6 f0 f1 f2 f3 f4 f5 f6
          refine hK.out _ _ (trivial : TT _) (fun hHeld => ?_)
          clear hK K
          try simp only [Act.put, setIfInBounds_toArray, set_cons_zero, set_cons_succ]
          refine wpAnyH_done (by kernel_rfl) ?_ _
          clear hHeld
          go_wp2_with fail
          go_meet
          exact ⟨be, bs, rfl, Lib.hid ⟨HSET.out, Hbsn.out, Gbs.out, HB136.out⟩⟩
    · go_simp
      have hbl : Below wd.heap.size wd (wd.alloc (.cells #[.string ⟨#[]⟩, .int .i64 0, .int .i64 0, .int .i64 0, .slice none 0 0, .bool false, .slice none 0 0] 33)) := (Below.refl _ wd).alloc (Nat.le_refl _) _
      have HB137 := Lib.hid (HBD.out.trans (hbl.mono HBD.out.size))
      have hz := Has.made wd 33 #[.string ⟨#[]⟩, .int .i64 0, .int .i64 0, .int .i64 0, .slice none 0 0, .bool false, .slice none 0 0]
      generalize wd.alloc (.cells #[.string ⟨#[]⟩, .int .i64 0, .int .i64 0, .int .i64 0, .slice none 0 0, .bool false, .slice none 0 0] 33) = W137 at HB137 hz  ⊢
      obtain ⟨be, hbe⟩ : ∃ b, wd.heap.size = b := ⟨_, rfl⟩
      rw [hbe] at hz ⊢
      have Gbe : Hid (w1.heap.size ≤ be) := Lib.hid (by rw [← hbe]; exact HBD.out.size)
      have Hbe := Lib.hid hz
      clear hz hbl hbe
      refine hK.out _ _ (trivial : TT _) (fun hHeld => ?_)
      clear hK K
      try simp only [Act.put, setIfInBounds_toArray, set_cons_zero, set_cons_succ]
      refine takeTwo (i := 0) (j := 2) (by kernel_rfl) rfl rfl (by rfl) (by rfl) (fun K hK => ?_) (fun K hK => ?_)
      · go_simp
        have hbl : Below W137.heap.size W137 (W137.alloc (.cells (fillc 0 32 0) 5)) := (Below.refl _ W137).alloc (Nat.le_refl _) _
        have HB138 := Lib.hid (HB137.out.trans (hbl.mono HB137.out.size))
        have hz := Has.made W137 5 (fillc 0 32 0)
        have Hben := Lib.hid (Hbe.out.of_alloc (.cells (fillc 0 32 0) 5))
        generalize W137.alloc (.cells (fillc 0 32 0) 5) = W138 at HB138 hz Hben ⊢
        obtain ⟨ba, hbe⟩ : ∃ b, W137.heap.size = b := ⟨_, rfl⟩
        rw [hbe] at hz ⊢
        have Gba : Hid (w1.heap.size ≤ ba) := Lib.hid (by rw [← hbe]; exact HB137.out.size)
        have Hba := Lib.hid hz
        clear hz hbl hbe
        refine hK.out _ _ (trivial : TT _) (fun hHeld => ?_)
        clear hK K
        try simp only [Act.put, setIfInBounds_toArray, set_cons_zero, set_cons_succ]
        refine takeTwo (i := 1) (j := 2) (by kernel_rfl) rfl rfl (by rfl) (by rfl) (fun K hK => ?_) (fun K hK => ?_)
        · have hcv := cv32 Hba.out
          go_simp
          clear hcv
          refine hK.out _ _ (trivial : TT _) (fun hHeld => ?_)
          clear hK K
          try simp only [Act.put, setIfInBounds_toArray, set_cons_zero, set_cons_succ]
          refine takeOne (i := 2) (by kernel_rfl) rfl (by rfl) (fun K hK => ?_)
          go_simp
          have hbl : Below W138.heap.size W138 (W138.alloc (.cells (fillc 0 16 0) 5)) := (Below.refl _ W138).alloc (Nat.le_refl _) _
          have HB140 := Lib.hid (HB138.out.trans (hbl.mono HB138.out.size))
          have hz := Has.made W138 5 (fillc 0 16 0)
          have Hbenn := Lib.hid (Hben.out.of_alloc (.cells (fillc 0 16 0) 5))
          have Hban := Lib.hid (Hba.out.of_alloc (.cells (fillc 0 16 0) 5))
          generalize W138.alloc (.cells (fillc 0 16 0) 5) = W140 at HB140 hz Hbenn Hban ⊢
          obtain ⟨bb, hbe⟩ : ∃ b, W138.heap.size = b := ⟨_, rfl⟩
          rw [hbe] at hz ⊢
          have Gbb : Hid (w1.heap.size ≤ bb) := Lib.hid (by rw [← hbe]; exact HB138.out.size)
          have Hbb := Lib.hid hz
          clear hz hbl hbe
          refine hK.out _ _ (trivial : TT _) (fun hHeld => ?_)
          clear hK K
          try simp only [Act.put, setIfInBounds_toArray, set_cons_zero, set_cons_succ]
          refine takeOne (i := 3) (by kernel_rfl) rfl (by rfl) (fun K hK => ?_)
          have hcv := cv16 Hbb.out
          go_simp
          clear hcv
          refine hK.out _ _ (trivial : TT _) (fun hHeld => ?_)
          clear hK K
          try simp only [Act.put, setIfInBounds_toArray, set_cons_zero, set_cons_succ]
          first
          | (refine tkW (i := 4) (v := ?_) rfl rfl ?_ ?_; rotate_left; (focus (intro w hSw; (try dsimp only at hSw); go_simp; first | done | with_reducible rfl)); (simp only [Act.at, setIfInBounds_toArray, set_cons_zero, set_cons_succ]))
          | (refine tkU (i := 4) rfl rfl ?_; (simp only [Act.at, setIfInBounds_toArray, set_cons_zero, set_cons_succ]))
          refine takeOne (i := 5) (by kernel_rfl) rfl (by rfl) (fun K hK => ?_)
          go_simp
          have hbl : Below W140.heap.size W140 (W140.alloc (.cells #[.string ⟨#[120]⟩, .string (S z32), .string (S z16), .bool false] 51)) := (Below.refl _ W140).alloc (Nat.le_refl _) _
          have HB142 := Lib.hid (HB140.out.trans (hbl.mono HB140.out.size))
          have hnx : be ≠ W140.heap.size := fun e => by have := Hbenn.out.lt; omega
          have hz := Has.made W140 51 #[.string ⟨#[120]⟩, .string (S z32), .string (S z16), .bool false]
          have Hbennn := Lib.hid (Hbenn.out.of_alloc (.cells #[.string ⟨#[120]⟩, .string (S z32), .string (S z16), .bool false] 51))
          have Hbann := Lib.hid (Hban.out.of_alloc (.cells #[.string ⟨#[120]⟩, .string (S z32), .string (S z16), .bool false] 51))
          have Hbbn := Lib.hid (Hbb.out.of_alloc (.cells #[.string ⟨#[120]⟩, .string (S z32), .string (S z16), .bool false] 51))
          generalize W140.alloc (.cells #[.string ⟨#[120]⟩, .string (S z32), .string (S z16), .bool false] 51) = W142 at HB142 hz Hbennn Hbann Hbbn ⊢
          obtain ⟨bs, hbe⟩ : ∃ b, W140.heap.size = b := ⟨_, rfl⟩
          rw [hbe] at hz hnx ⊢
          have NBE : Hid (bs ≠ be) := Lib.hid (fun e => hnx e.symm)
          clear hnx
          have Gbs : Hid (w1.heap.size ≤ bs) := Lib.hid (by rw [← hbe]; exact HB140.out.size)
          have Hbs := Lib.hid hz
          clear hz hbl hbe
          refine hK.out _ _ (trivial : TT _) (fun hHeld => ?_)
          clear hK K
          try simp only [Act.put, setIfInBounds_toArray, set_cons_zero, set_cons_succ]
          first
          | (refine tkW (i := 6) (v := ?_) rfl rfl ?_ ?_; rotate_left; (focus (intro w hSw; (try dsimp only at hSw); go_simp; first | done | with_reducible rfl)); (simp only [Act.at, setIfInBounds_toArray, set_cons_zero, set_cons_succ]))
          | (refine tkU (i := 6) rfl rfl ?_; (simp only [Act.at, setIfInBounds_toArray, set_cons_zero, set_cons_succ]))
          refine takeOne (i := 8) (by kernel_rfl) rfl (by rfl) (fun K hK => ?_)
          have z0 : W142.cell? ⟨be, 0, none⟩ = some (.string ⟨#[]⟩) := Hbennn.out.cell 0
          have f0 : W142.frozen? ⟨be, 0, none⟩ = false := Hbennn.out.free 0
          have z1 : W142.cell? ⟨be, 1, none⟩ = some (.int .i64 0) := Hbennn.out.cell 1
          have f1 : W142.frozen? ⟨be, 1, none⟩ = false := Hbennn.out.free 1
          have z2 : W142.cell? ⟨be, 2, none⟩ = some (.int .i64 0) := Hbennn.out.cell 2
          have f2 : W142.frozen? ⟨be, 2, none⟩ = false := Hbennn.out.free 2
          have z3 : W142.cell? ⟨be, 3, none⟩ = some (.int .i64 0) := Hbennn.out.cell 3
          have f3 : W142.frozen? ⟨be, 3, none⟩ = false := Hbennn.out.free 3
          have z4 : W142.cell? ⟨be, 4, none⟩ = some (.slice none 0 0) := Hbennn.out.cell 4
          have f4 : W142.frozen? ⟨be, 4, none⟩ = false := Hbennn.out.free 4
          have z5 : W142.cell? ⟨be, 5, none⟩ = some (.bool false) := Hbennn.out.cell 5
          have f5 : W142.frozen? ⟨be, 5, none⟩ = false := Hbennn.out.free 5
          have z6 : W142.cell? ⟨be, 6, none⟩ = some (.slice none 0 0) := Hbennn.out.cell 6
          have f6 : W142.frozen? ⟨be, 6, none⟩ = false := Hbennn.out.free 6
          have hne : bs ≠ be := NBE.out
          go_simp
          have hset := set7 Hbennn.out (.string ⟨#[97]⟩) (.int .i64 0) (.int .i64 0) (.int .i64 0) (.slice (some ⟨bs, 0, none⟩) 1 1) (.bool false) (.slice none 0 0)
          have hon := only7 W142 be (.string ⟨#[97]⟩) (.int .i64 0) (.int .i64 0) (.int .i64 0) (.slice (some ⟨bs, 0, none⟩) 1 1) (.bool false) (.slice none 0 0)
          have Hbsn := Lib.hid ((Mv.of_only hon (s := [be]) (by simp)).has Hbs.out (by rw [List.mem_singleton]; exact hne))
          have HB143 := Lib.hid (hon.below HB142.out HB142.out.size Gbe.out)
          generalize (((((((W142.setCell ⟨be, 0, none⟩ (.string ⟨#[97]⟩)).setCell ⟨be, 1, none⟩ (.int .i64 0)).setCell ⟨be, 2, none⟩ (.int .i64 0)).setCell ⟨be, 3, none⟩ (.int .i64 0)).setCell ⟨be, 4, none⟩ (.slice (some ⟨bs, 0, none⟩) 1 1)).setCell ⟨be, 5, none⟩ (.bool false)).setCell ⟨be, 6, none⟩ (.slice none 0 0)) = W143 at hset hon Hbsn HB143 ⊢
          have HSET := Lib.hid hset
          clear hset hon hne z0 z1 z2 z3 z4 z5 z6 f0 f1 f2 f3 f4 f5 f6
          refine hK.out _ _ (trivial : TT _) (fun hHeld => ?_)
          clear hK K
          try simp only [Act.put, setIfInBounds_toArray, set_cons_zero, set_cons_succ]
          refine wpAnyH_done (by kernel_rfl) ?_ _
          clear hHeld
          go_wp2_with fail
          go_meet
          exact ⟨be, bs, rfl, Lib.hid ⟨HSET.out, Hbsn.out, Gbs.out, HB143.out⟩⟩
        · go_simp
          have hbl : Below W138.heap.size W138 (W138.alloc (.cells (fillc 0 16 0) 5)) := (Below.refl _ W138).alloc (Nat.le_refl _) _
          have HB144 := Lib.hid (HB138.out.trans (hbl.mono HB138.out.size))
          have hz := Has.made W138 5 (fillc 0 16 0)
          have Hbenn := Lib.hid (Hben.out.of_alloc (.cells (fillc 0 16 0) 5))
          have Hban := Lib.hid (Hba.out.of_alloc (.cells (fillc 0 16 0) 5))
          generalize W138.alloc (.cells (fillc 0 16 0) 5) = W144 at HB144 hz Hbenn Hban ⊢
          obtain ⟨bb, hbe⟩ : ∃ b, W138.heap.size = b := ⟨_, rfl⟩
          rw [hbe] at hz ⊢
          have Gbb : Hid (w1.heap.size ≤ bb) := Lib.hid (by rw [← hbe]; exact HB138.out.size)
          have Hbb := Lib.hid hz
          clear hz hbl hbe
          refine hK.out _ _ (trivial : TT _) (fun hHeld => ?_)
          clear hK K
          try simp only [Act.put, setIfInBounds_toArray, set_cons_zero, set_cons_succ]
          refine takeTwo (i := 1) (j := 3) (by kernel_rfl) rfl rfl (by rfl) (by rfl) (fun K hK => ?_) (fun K hK => ?_)
          · have hcv := cv32 Hban.out
            go_simp
            clear hcv
            refine hK.out _ _ (trivial : TT _) (fun hHeld => ?_)
            clear hK K
            try simp only [Act.put, setIfInBounds_toArray, set_cons_zero, set_cons_succ]
            refine takeOne (i := 3) (by kernel_rfl) rfl (by rfl) (fun K hK => ?_)
            have hcv := cv16 Hbb.out
            go_simp
            clear hcv
            refine hK.out _ _ (trivial : TT _) (fun hHeld => ?_)
            clear hK K
            try simp only [Act.put, setIfInBounds_toArray, set_cons_zero, set_cons_succ]
            first
            | (refine tkW (i := 4) (v := ?_) rfl rfl ?_ ?_; rotate_left; (focus (intro w hSw; (try dsimp only at hSw); go_simp; first | done | with_reducible rfl)); (simp only [Act.at, setIfInBounds_toArray, set_cons_zero, set_cons_succ]))
            | (refine tkU (i := 4) rfl rfl ?_; (simp only [Act.at, setIfInBounds_toArray, set_cons_zero, set_cons_succ]))
            refine takeOne (i := 5) (by kernel_rfl) rfl (by rfl) (fun K hK => ?_)
            go_simp
            have hbl : Below W144.heap.size W144 (W144.alloc (.cells #[.string ⟨#[120]⟩, .string (S z32), .string (S z16), .bool false] 51)) := (Below.refl _ W144).alloc (Nat.le_refl _) _
            have HB147 := Lib.hid (HB144.out.trans (hbl.mono HB144.out.size))
            have hnx : be ≠ W144.heap.size := fun e => by have := Hbenn.out.lt; omega
            have hz := Has.made W144 51 #[.string ⟨#[120]⟩, .string (S z32), .string (S z16), .bool false]
            have Hbennn := Lib.hid (Hbenn.out.of_alloc (.cells #[.string ⟨#[120]⟩, .string (S z32), .string (S z16), .bool false] 51))
            have Hbann := Lib.hid (Hban.out.of_alloc (.cells #[.string ⟨#[120]⟩, .string (S z32), .string (S z16), .bool false] 51))
            have Hbbn := Lib.hid (Hbb.out.of_alloc (.cells #[.string ⟨#[120]⟩, .string (S z32), .string (S z16), .bool false] 51))
            generalize W144.alloc (.cells #[.string ⟨#[120]⟩, .string (S z32), .string (S z16), .bool false] 51) = W147 at HB147 hz Hbennn Hbann Hbbn ⊢
            obtain ⟨bs, hbe⟩ : ∃ b, W144.heap.size = b := ⟨_, rfl⟩
            rw [hbe] at hz hnx ⊢
            have NBE : Hid (bs ≠ be) := Lib.hid (fun e => hnx e.symm)
            clear hnx
            have Gbs : Hid (w1.heap.size ≤ bs) := Lib.hid (by rw [← hbe]; exact HB144.out.size)
            have Hbs := Lib.hid hz
            clear hz hbl hbe
            refine hK.out _ _ (trivial : TT _) (fun hHeld => ?_)
            clear hK K
            try simp only [Act.put, setIfInBounds_toArray, set_cons_zero, set_cons_succ]
            first
            | (refine tkW (i := 6) (v := ?_) rfl rfl ?_ ?_; rotate_left; (focus (intro w hSw; (try dsimp only at hSw); go_simp; first | done | with_reducible rfl)); (simp only [Act.at, setIfInBounds_toArray, set_cons_zero, set_cons_succ]))
            | (refine tkU (i := 6) rfl rfl ?_; (simp only [Act.at, setIfInBounds_toArray, set_cons_zero, set_cons_succ]))
            refine takeOne (i := 8) (by kernel_rfl) rfl (by rfl) (fun K hK => ?_)
            have z0 : W147.cell? ⟨be, 0, none⟩ = some (.string ⟨#[]⟩) := Hbennn.out.cell 0
            have f0 : W147.frozen? ⟨be, 0, none⟩ = false := Hbennn.out.free 0
            have z1 : W147.cell? ⟨be, 1, none⟩ = some (.int .i64 0) := Hbennn.out.cell 1
            have f1 : W147.frozen? ⟨be, 1, none⟩ = false := Hbennn.out.free 1
            have z2 : W147.cell? ⟨be, 2, none⟩ = some (.int .i64 0) := Hbennn.out.cell 2
            have f2 : W147.frozen? ⟨be, 2, none⟩ = false := Hbennn.out.free 2
            have z3 : W147.cell? ⟨be, 3, none⟩ = some (.int .i64 0) := Hbennn.out.cell 3
            have f3 : W147.frozen? ⟨be, 3, none⟩ = false := Hbennn.out.free 3
            have z4 : W147.cell? ⟨be, 4, none⟩ = some (.slice none 0 0) := Hbennn.out.cell 4
            have f4 : W147.frozen? ⟨be, 4, none⟩ = false := Hbennn.out.free 4
            have z5 : W147.cell? ⟨be, 5, none⟩ = some (.bool false) := Hbennn.out.cell 5
            have f5 : W147.frozen? ⟨be, 5, none⟩ = false := Hbennn.out.free 5
            have z6 : W147.cell? ⟨be, 6, none⟩ = some (.slice none 0 0) := Hbennn.out.cell 6
            have f6 : W147.frozen? ⟨be, 6, none⟩ = false := Hbennn.out.free 6
            have hne : bs ≠ be := NBE.out
            go_simp
            have hset := set7 Hbennn.out (.string ⟨#[97]⟩) (.int .i64 0) (.int .i64 0) (.int .i64 0) (.slice (some ⟨bs, 0, none⟩) 1 1) (.bool false) (.slice none 0 0)
            have hon := only7 W147 be (.string ⟨#[97]⟩) (.int .i64 0) (.int .i64 0) (.int .i64 0) (.slice (some ⟨bs, 0, none⟩) 1 1) (.bool false) (.slice none 0 0)
            have Hbsn := Lib.hid ((Mv.of_only hon (s := [be]) (by simp)).has Hbs.out (by rw [List.mem_singleton]; exact hne))
            have HB148 := Lib.hid (hon.below HB147.out HB147.out.size Gbe.out)
            generalize (((((((W147.setCell ⟨be, 0, none⟩ (.string ⟨#[97]⟩)).setCell ⟨be, 1, none⟩ (.int .i64 0)).setCell ⟨be, 2, none⟩ (.int .i64 0)).setCell ⟨be, 3, none⟩ (.int .i64 0)).setCell ⟨be, 4, none⟩ (.slice (some ⟨bs, 0, none⟩) 1 1)).setCell ⟨be, 5, none⟩ (.bool false)).setCell ⟨be, 6, none⟩ (.slice none 0 0)) = W148 at hset hon Hbsn HB148 ⊢
            have HSET := Lib.hid hset
            clear hset hon hne z0 z1 z2 z3 z4 z5 z6 f0 f1 f2 f3 f4 f5 f6
            refine hK.out _ _ (trivial : TT _) (fun hHeld => ?_)
            clear hK K
            try simp only [Act.put, setIfInBounds_toArray, set_cons_zero, set_cons_succ]
            refine wpAnyH_done (by kernel_rfl) ?_ _
            clear hHeld
            go_wp2_with fail
            go_meet
            exact ⟨be, bs, rfl, Lib.hid ⟨HSET.out, Hbsn.out, Gbs.out, HB148.out⟩⟩
          · have hcv := cv16 Hbb.out
            go_simp
            clear hcv
            refine hK.out _ _ (trivial : TT _) (fun hHeld => ?_)
            clear hK K
            try simp only [Act.put, setIfInBounds_toArray, set_cons_zero, set_cons_succ]
            refine takeOne (i := 1) (by kernel_rfl) rfl (by rfl) (fun K hK => ?_)
            have hcv := cv32 Hban.out
            go_simp
            clear hcv
            refine hK.out _ _ (trivial : TT _) (fun hHeld => ?_)
            clear hK K
            try simp only [Act.put, setIfInBounds_toArray, set_cons_zero, set_cons_succ]
            first
            | (refine tkW (i := 4) (v := ?_) rfl rfl ?_ ?_; rotate_left; (focus (intro w hSw; (try dsimp only at hSw); go_simp; first | done | with_reducible rfl)); (simp only [Act.at, setIfInBounds_toArray, set_cons_zero, set_cons_succ]))
            | (refine tkU (i := 4) rfl rfl ?_; (simp only [Act.at, setIfInBounds_toArray, set_cons_zero, set_cons_succ]))
            refine takeOne (i := 5) (by kernel_rfl) rfl (by rfl) (fun K hK => ?_)
            go_simp
            have hbl : Below W144.heap.size W144 (W144.alloc (.cells #[.string ⟨#[120]⟩, .string (S z32), .string (S z16), .bool false] 51)) := (Below.refl _ W144).alloc (Nat.le_refl _) _
            have HB151 := Lib.hid (HB144.out.trans (hbl.mono HB144.out.size))
            have hnx : be ≠ W144.heap.size := fun e => by have := Hbenn.out.lt; omega
            have hz := Has.made W144 51 #[.string ⟨#[120]⟩, .string (S z32), .string (S z16), .bool false]
            have Hbennn := Lib.hid (Hbenn.out.of_alloc (.cells #[.string ⟨#[120]⟩, .string (S z32), .string (S z16), .bool false] 51))
            have Hbann := Lib.hid (Hban.out.of_alloc (.cells #[.string ⟨#[120]⟩, .string (S z32), .string (S z16), .bool false] 51))
            have Hbbn := Lib.hid (Hbb.out.of_alloc (.cells #[.string ⟨#[120]⟩, .string (S z32), .string (S z16), .bool false] 51))
            generalize W144.alloc (.cells #[.string ⟨#[120]⟩, .string (S z32), .string (S z16), .bool false] 51) = W151 at HB151 hz Hbennn Hbann Hbbn ⊢
            obtain ⟨bs, hbe⟩ : ∃ b, W144.heap.size = b := ⟨_, rfl⟩
            rw [hbe] at hz hnx ⊢
            have NBE : Hid (bs ≠ be) := Lib.hid (fun e => hnx e.symm)
            clear hnx
            have Gbs : Hid (w1.heap.size ≤ bs) := Lib.hid (by rw [← hbe]; exact HB144.out.size)
            have Hbs := Lib.hid hz
            clear hz hbl hbe
            refine hK.out _ _ (trivial : TT _) (fun hHeld => ?_)
            clear hK K
            try simp only [Act.put, setIfInBounds_toArray, set_cons_zero, set_cons_succ]
            first
            | (refine tkW (i := 6) (v := ?_) rfl rfl ?_ ?_; rotate_left; (focus (intro w hSw; (try dsimp only at hSw); go_simp; first | done | with_reducible rfl)); (simp only [Act.at, setIfInBounds_toArray, set_cons_zero, set_cons_succ]))
            | (refine tkU (i := 6) rfl rfl ?_; (simp only [Act.at, setIfInBounds_toArray, set_cons_zero, set_cons_succ]))
            refine takeOne (i := 8) (by kernel_rfl) rfl (by rfl) (fun K hK => ?_)
            have z0 : W151.cell? ⟨be, 0, none⟩ = some (.string ⟨#[]⟩) := Hbennn.out.cell 0
            have f0 : W151.frozen? ⟨be, 0, none⟩ = false := Hbennn.out.free 0
            have z1 : W151.cell? ⟨be, 1, none⟩ = some (.int .i64 0) := Hbennn.out.cell 1
            have f1 : W151.frozen? ⟨be, 1, none⟩ = false := Hbennn.out.free 1
            have z2 : W151.cell? ⟨be, 2, none⟩ = some (.int .i64 0) := Hbennn.out.cell 2
            have f2 : W151.frozen? ⟨be, 2, none⟩ = false := Hbennn.out.free 2
            have z3 : W151.cell? ⟨be, 3, none⟩ = some (.int .i64 0) := Hbennn.out.cell 3
            have f3 : W151.frozen? ⟨be, 3, none⟩ = false := Hbennn.out.free 3
            have z4 : W151.cell? ⟨be, 4, none⟩ = some (.slice none 0 0) := Hbennn.out.cell 4
            have f4 : W151.frozen? ⟨be, 4, none⟩ = false := Hbennn.out.free 4
            have z5 : W151.cell? ⟨be, 5, none⟩ = some (.bool false) := Hbennn.out.cell 5
            have f5 : W151.frozen? ⟨be, 5, none⟩ = false := Hbennn.out.free 5
            have z6 : W151.cell? ⟨be, 6, none⟩ = some (.slice none 0 0) := Hbennn.out.cell 6
            have f6 : W151.frozen? ⟨be, 6, none⟩ = false := Hbennn.out.free 6
            have hne : bs ≠ be := NBE.out
            go_simp
            have hset := set7 Hbennn.out (.string ⟨#[97]⟩) (.int .i64 0) (.int .i64 0) (.int .i64 0) (.slice (some ⟨bs, 0, none⟩) 1 1) (.bool false) (.slice none 0 0)
            have hon := only7 W151 be (.string ⟨#[97]⟩) (.int .i64 0) (.int .i64 0) (.int .i64 0) (.slice (some ⟨bs, 0, none⟩) 1 1) (.bool false) (.slice none 0 0)
            have Hbsn := Lib.hid ((Mv.of_only hon (s := [be]) (by simp)).has Hbs.out (by rw [List.mem_singleton]; exact hne))
            have HB152 := Lib.hid (hon.below HB151.out HB151.out.size Gbe.out)
            generalize (((((((W151.setCell ⟨be, 0, none⟩ (.string ⟨#[97]⟩)).setCell ⟨be, 1, none⟩ (.int .i64 0)).setCell ⟨be, 2, none⟩ (.int .i64 0)).setCell ⟨be, 3, none⟩ (.int .i64 0)).setCell ⟨be, 4, none⟩ (.slice (some ⟨bs, 0, none⟩) 1 1)).setCell ⟨be, 5, none⟩ (.bool false)).setCell ⟨be, 6, none⟩ (.slice none 0 0)) = W152 at hset hon Hbsn HB152 ⊢
            have HSET := Lib.hid hset
            clear hset hon hne z0 z1 z2 z3 z4 z5 z6 f0 f1 f2 f3 f4 f5 f6
            refine hK.out _ _ (trivial : TT _) (fun hHeld => ?_)
            clear hK K
            try simp only [Act.put, setIfInBounds_toArray, set_cons_zero, set_cons_succ]
            refine wpAnyH_done (by kernel_rfl) ?_ _
            clear hHeld
            go_wp2_with fail
            go_meet
            exact ⟨be, bs, rfl, Lib.hid ⟨HSET.out, Hbsn.out, Gbs.out, HB152.out⟩⟩
      · go_simp
        have hbl : Below W137.heap.size W137 (W137.alloc (.cells (fillc 0 16 0) 5)) := (Below.refl _ W137).alloc (Nat.le_refl _) _
        have HB153 := Lib.hid (HB137.out.trans (hbl.mono HB137.out.size))
        have hz := Has.made W137 5 (fillc 0 16 0)
        have Hben := Lib.hid (Hbe.out.of_alloc (.cells (fillc 0 16 0) 5))
        generalize W137.alloc (.cells (fillc 0 16 0) 5) = W153 at HB153 hz Hben ⊢
        obtain ⟨bb, hbe⟩ : ∃ b, W137.heap.size = b := ⟨_, rfl⟩
        rw [hbe] at hz ⊢
        have Gbb : Hid (w1.heap.size ≤ bb) := Lib.hid (by rw [← hbe]; exact HB137.out.size)
        have Hbb := Lib.hid hz
        clear hz hbl hbe
        refine hK.out _ _ (trivial : TT _) (fun hHeld => ?_)
        clear hK K
        try simp only [Act.put, setIfInBounds_toArray, set_cons_zero, set_cons_succ]
        refine takeTwo (i := 0) (j := 3) (by kernel_rfl) rfl rfl (by rfl) (by rfl) (fun K hK => ?_) (fun K hK => ?_)
        · go_simp
          have hbl : Below W153.heap.size W153 (W153.alloc (.cells (fillc 0 32 0) 5)) := (Below.refl _ W153).alloc (Nat.le_refl _) _
          have HB154 := Lib.hid (HB153.out.trans (hbl.mono HB153.out.size))
          have hz := Has.made W153 5 (fillc 0 32 0)
          have Hbenn := Lib.hid (Hben.out.of_alloc (.cells (fillc 0 32 0) 5))
          have Hbbn := Lib.hid (Hbb.out.of_alloc (.cells (fillc 0 32 0) 5))
          generalize W153.alloc (.cells (fillc 0 32 0) 5) = W154 at HB154 hz Hbenn Hbbn ⊢
          obtain ⟨ba, hbe⟩ : ∃ b, W153.heap.size = b := ⟨_, rfl⟩
          rw [hbe] at hz ⊢
          have Gba : Hid (w1.heap.size ≤ ba) := Lib.hid (by rw [← hbe]; exact HB153.out.size)
          have Hba := Lib.hid hz
          clear hz hbl hbe
          refine hK.out _ _ (trivial : TT _) (fun hHeld => ?_)
          clear hK K
          try simp only [Act.put, setIfInBounds_toArray, set_cons_zero, set_cons_succ]
          refine takeTwo (i := 1) (j := 3) (by kernel_rfl) rfl rfl (by rfl) (by rfl) (fun K hK => ?_) (fun K hK => ?_)
          · have hcv := cv32 Hba.out
            go_simp
            clear hcv
            refine hK.out _ _ (trivial : TT _) (fun hHeld => ?_)
            clear hK K
            try simp only [Act.put, setIfInBounds_toArray, set_cons_zero, set_cons_succ]
            refine takeOne (i := 3) (by kernel_rfl) rfl (by rfl) (fun K hK => ?_)
            have hcv := cv16 Hbbn.out
            go_simp
            clear hcv
            refine hK.out _ _ (trivial : TT _) (fun hHeld => ?_)
            clear hK K
            try simp only [Act.put, setIfInBounds_toArray, set_cons_zero, set_cons_succ]
            first
            | (refine tkW (i := 4) (v := ?_) rfl rfl ?_ ?_; rotate_left; (focus (intro w hSw; (try dsimp only at hSw); go_simp; first | done | with_reducible rfl)); (simp only [Act.at, setIfInBounds_toArray, set_cons_zero, set_cons_succ]))
            | (refine tkU (i := 4) rfl rfl ?_; (simp only [Act.at, setIfInBounds_toArray, set_cons_zero, set_cons_succ]))
            refine takeOne (i := 5) (by kernel_rfl) rfl (by rfl) (fun K hK => ?_)
            go_simp
            have hbl : Below W154.heap.size W154 (W154.alloc (.cells #[.string ⟨#[120]⟩, .string (S z32), .string (S z16), .bool false] 51)) := (Below.refl _ W154).alloc (Nat.le_refl _) _
            have HB157 := Lib.hid (HB154.out.trans (hbl.mono HB154.out.size))
            have hnx : be ≠ W154.heap.size := fun e => by have := Hbenn.out.lt; omega
            have hz := Has.made W154 51 #[.string ⟨#[120]⟩, .string (S z32), .string (S z16), .bool false]
            have Hbennn := Lib.hid (Hbenn.out.of_alloc (.cells #[.string ⟨#[120]⟩, .string (S z32), .string (S z16), .bool false] 51))
            have Hbbnn := Lib.hid (Hbbn.out.of_alloc (.cells #[.string ⟨#[120]⟩, .string (S z32), .string (S z16), .bool false] 51))
            have Hban := Lib.hid (Hba.out.of_alloc (.cells #[.string ⟨#[120]⟩, .string (S z32), .string (S z16), .bool false] 51))
            generalize W154.alloc (.cells #[.string ⟨#[120]⟩, .string (S z32), .string (S z16), .bool false] 51) = W157 at HB157 hz Hbennn Hbbnn Hban ⊢
            obtain ⟨bs, hbe⟩ : ∃ b, W154.heap.size = b := ⟨_, rfl⟩
            rw [hbe] at hz hnx ⊢
            have NBE : Hid (bs ≠ be) := Lib.hid (fun e => hnx e.symm)
            clear hnx
            have Gbs : Hid (w1.heap.size ≤ bs) := Lib.hid (by rw [← hbe]; exact HB154.out.size)
            have Hbs := Lib.hid hz
            clear hz hbl hbe
            refine hK.out _ _ (trivial : TT _) (fun hHeld => ?_)
            clear hK K
            try simp only [Act.put, setIfInBounds_toArray, set_cons_zero, set_cons_succ]
            first
            | (refine tkW (i := 6) (v := ?_) rfl rfl ?_ ?_; rotate_left; (focus (intro w hSw; (try dsimp only at hSw); go_simp; first | done | with_reducible rfl)); (simp only [Act.at, setIfInBounds_toArray, set_cons_zero, set_cons_succ]))
            | (refine tkU (i := 6) rfl rfl ?_; (simp only [Act.at, setIfInBounds_toArray, set_cons_zero, set_cons_succ]))
            refine takeOne (i := 8) (by kernel_rfl) rfl (by rfl) (fun K hK => ?_)
            have z0 : W157.cell? ⟨be, 0, none⟩ = some (.string ⟨#[]⟩) := Hbennn.out.cell 0
            have f0 : W157.frozen? ⟨be, 0, none⟩ = false := Hbennn.out.free 0
            have z1 : W157.cell? ⟨be, 1, none⟩ = some (.int .i64 0) := Hbennn.out.cell 1
            have f1 : W157.frozen? ⟨be, 1, none⟩ = false := Hbennn.out.free 1
            have z2 : W157.cell? ⟨be, 2, none⟩ = some (.int .i64 0) := Hbennn.out.cell 2
            have f2 : W157.frozen? ⟨be, 2, none⟩ = false := Hbennn.out.free 2
            have z3 : W157.cell? ⟨be, 3, none⟩ = some (.int .i64 0) := Hbennn.out.cell 3
            have f3 : W157.frozen? ⟨be, 3, none⟩ = false := Hbennn.out.free 3
            have z4 : W157.cell? ⟨be, 4, none⟩ = some (.slice none 0 0) := Hbennn.out.cell 4
            have f4 : W157.frozen? ⟨be, 4, none⟩ = false := Hbennn.out.free 4
            have z5 : W157.cell? ⟨be, 5, none⟩ = some (.bool false) := Hbennn.out.cell 5
            have f5 : W157.frozen? ⟨be, 5, none⟩ = false := Hbennn.out.free 5
            have z6 : W157.cell? ⟨be, 6, none⟩ = some (.slice none 0 0) := Hbennn.out.cell 6
            have f6 : W157.frozen? ⟨be, 6, none⟩ = false := Hbennn.out.free 6
            have hne : bs ≠ be := NBE.out
            go_simp
            have hset := set7 Hbennn.out (.string ⟨#[97]⟩) (.int .i64 0) (.int .i64 0) (.int .i64 0) (.slice (some ⟨bs, 0, none⟩) 1 1) (.bool false) (.slice none 0 0)
            have hon := only7 W157 be (.string ⟨#[97]⟩) (.int .i64 0) (.int .i64 0) (.int .i64 0) (.slice (some ⟨bs, 0, none⟩) 1 1) (.bool false) (.slice none 0 0)
            have Hbsn := Lib.hid ((Mv.of_only hon (s := [be]) (by simp)).has Hbs.out (by rw [List.mem_singleton]; exact hne))
            have HB158 := Lib.hid (hon.below HB157.out HB157.out.size Gbe.out)
            generalize (((((((W157.setCell ⟨be, 0, none⟩ (.string ⟨#[97]⟩)).setCell ⟨be, 1, none⟩ (.int .i64 0)).setCell ⟨be, 2, none⟩ (.int .i64 0)).setCell ⟨be, 3, none⟩ (.int .i64 0)).setCell ⟨be, 4, none⟩ (.slice (some ⟨bs, 0, none⟩) 1 1)).setCell ⟨be, 5, none⟩ (.bool false)).setCell ⟨be, 6, none⟩ (.slice none 0 0)) = W158 at hset hon Hbsn HB158 ⊢
            have HSET := Lib.hid hset
            clear hset hon hne z0 z1 z2 z3 z4 z5 z6 f0 f1 f2 f3 f4 f5 f6
            refine hK.out _ _ (trivial : TT _) (fun hHeld => ?_)
            clear hK K
            try simp only [Act.put, setIfInBounds_toArray, set_cons_zero, set_cons_succ]
            refine wpAnyH_done (by kernel_rfl) ?_ _
            clear hHeld
            go_wp2_with fail
            go_meet
            exact ⟨be, bs, rfl, Lib.hid ⟨HSET.out, Hbsn.out, Gbs.out, HB158.out⟩⟩
          · have hcv := cv16 Hbbn.out
            go_simp
            clear hcv
            refine hK.out _ _ (trivial : TT _) (fun hHeld => ?_)
            clear hK K
            try simp only [Act.put, setIfInBounds_toArray, set_cons_zero, set_cons_succ]
            refine takeOne (i := 1) (by kernel_rfl) rfl (by rfl) (fun K hK => ?_)
            have hcv := cv32 Hba.out
            go_simp
            clear hcv
            refine hK.out _ _ (trivial : TT _) (fun hHeld => ?_)
            clear hK K
            try simp only [Act.put, setIfInBounds_toArray, set_cons_zero, set_cons_succ]
            first
            | (refine tkW (i := 4) (v := ?_) rfl rfl ?_ ?_; rotate_left; (focus (intro w hSw; (try dsimp only at hSw); go_simp; first | done | with_reducible rfl)); (simp only [Act.at, setIfInBounds_toArray, set_cons_zero, set_cons_succ]))
            | (refine tkU (i := 4) rfl rfl ?_; (simp only [Act.at, setIfInBounds_toArray, set_cons_zero, set_cons_succ]))
            refine takeOne (i := 5) (by kernel_rfl) rfl (by rfl) (fun K hK => ?_)
            go_simp
            have hbl : Below W154.heap.size W154 (W154.alloc (.cells #[.string ⟨#[120]⟩, .string (S z32), .string (S z16), .bool false] 51)) := (Below.refl _ W154).alloc (Nat.le_refl _) _
            have HB161 := Lib.hid (HB154.out.trans (hbl.mono HB154.out.size))
            have hnx : be ≠ W154.heap.size := fun e => by have := Hbenn.out.lt; omega
            have hz := Has.made W154 51 #[.string ⟨#[120]⟩, .string (S z32), .string (S z16), .bool false]
            have Hbennn := Lib.hid (Hbenn.out.of_alloc (.cells #[.string ⟨#[120]⟩, .string (S z32), .string (S z16), .bool false] 51))
            have Hbbnn := Lib.hid (Hbbn.out.of_alloc (.cells #[.string ⟨#[120]⟩, .string (S z32), .string (S z16), .bool false] 51))
            have Hban := Lib.hid (Hba.out.of_alloc (.cells #[.string ⟨#[120]⟩, .string (S z32), .string (S z16), .bool false] 51))
            generalize W154.alloc (.cells #[.string ⟨#[120]⟩, .string (S z32), .string (S z16), .bool false] 51) = W161 at HB161 hz Hbennn Hbbnn Hban ⊢
            obtain ⟨bs, hbe⟩ : ∃ b, W154.heap.size = b := ⟨_, rfl⟩
            rw [hbe] at hz hnx ⊢
            have NBE : Hid (bs ≠ be) := Lib.hid (fun e => hnx e.symm)
            clear hnx
            have Gbs : Hid (w1.heap.size ≤ bs) := Lib.hid (by rw [← hbe]; exact HB154.out.size)
            have Hbs := Lib.hid hz
            clear hz hbl hbe
            refine hK.out _ _ (trivial : TT _) (fun hHeld => ?_)
            clear hK K
            try simp only [Act.put, setIfInBounds_toArray, set_cons_zero, set_cons_succ]
            first
            | (refine tkW (i := 6) (v := ?_) rfl rfl ?_ ?_; rotate_left; (focus (intro w hSw; (try dsimp only at hSw); go_simp; first | done | with_reducible rfl)); (simp only [Act.at, setIfInBounds_toArray, set_cons_zero, set_cons_succ]))
            | (refine tkU (i := 6) rfl rfl ?_; (simp only [Act.at, setIfInBounds_toArray, set_cons_zero, set_cons_succ]))
            refine takeOne (i := 8) (by kernel_rfl) rfl (by rfl) (fun K hK => ?_)
            have z0 : W161.cell? ⟨be, 0, none⟩ = some (.string ⟨#[]⟩) := Hbennn.out.cell 0
            have f0 : W161.frozen? ⟨be, 0, none⟩ = false := Hbennn.out.free 0
            have z1 : W161.cell? ⟨be, 1, none⟩ = some (.int .i64 0) := Hbennn.out.cell 1
            have f1 : W161.frozen? ⟨be, 1, none⟩ = false := Hbennn.out.free 1
            have z2 : W161.cell? ⟨be, 2, none⟩ = some (.int .i64 0) := Hbennn.out.cell 2
            have f2 : W161.frozen? ⟨be, 2, none⟩ = false := Hbennn.out.free 2
            have z3 : W161.cell? ⟨be, 3, none⟩ = some (.int .i64 0) := Hbennn.out.cell 3
            have f3 : W161.frozen? ⟨be, 3, none⟩ = false := Hbennn.out.free 3
            have z4 : W161.cell? ⟨be, 4, none⟩ = some (.slice none 0 0) := Hbennn.out.cell 4
            have f4 : W161.frozen? ⟨be, 4, none⟩ = false := Hbennn.out.free 4
            have z5 : W161.cell? ⟨be, 5, none⟩ = some (.bool false) := Hbennn.out.cell 5
            have f5 : W161.frozen? ⟨be, 5, none⟩ = false := Hbennn.out.free 5
            have z6 : W161.cell? ⟨be, 6, none⟩ = some (.slice none 0 0) := Hbennn.out.cell 6
            have f6 : W161.frozen? ⟨be, 6, none⟩ = false := Hbennn.out.free 6
            have hne : bs ≠ be := NBE.out
            go_simp
            have hset := set7 Hbennn.out (.string ⟨#[97]⟩) (.int .i64 0) (.int .i64 0) (.int .i64 0) (.slice (some ⟨bs, 0, none⟩) 1 1) (.bool false) (.slice none 0 0)
            have hon := only7 W161 be (.string ⟨#[97]⟩) (.int .i64 0) (.int .i64 0) (.int .i64 0) (.slice (some ⟨bs, 0, none⟩) 1 1) (.bool false) (.slice none 0 0)
            have Hbsn := Lib.hid ((Mv.of_only hon (s := [be]) (by simp)).has Hbs.out (by rw [List.mem_singleton]; exact hne))
            have HB162 := Lib.hid (hon.below HB161.out HB161.out.size Gbe.out)
            generalize (((((((W161.setCell ⟨be, 0, none⟩ (.string ⟨#[97]⟩)).setCell ⟨be, 1, none⟩ (.int .i64 0)).setCell ⟨be, 2, none⟩ (.int .i64 0)).setCell ⟨be, 3, none⟩ (.int .i64 0)).setCell ⟨be, 4, none⟩ (.slice (some ⟨bs, 0, none⟩) 1 1)).setCell ⟨be, 5, none⟩ (.bool false)).setCell ⟨be, 6, none⟩ (.slice none 0 0)) = W162 at hset hon Hbsn HB162 ⊢
            have HSET := Lib.hid hset
            clear hset hon hne z0 z1 z2 z3 z4 z5 z6 f0 f1 f2 f3 f4 f5 f6
            refine hK.out _ _ (trivial : TT _) (fun hHeld => ?_)
            clear hK K
            try simp only [Act.put, setIfInBounds_toArray, set_cons_zero, set_cons_succ]
            refine wpAnyH_done (by kernel_rfl) ?_ _
            clear hHeld
            go_wp2_with fail
            go_meet
            exact ⟨be, bs, rfl, Lib.hid ⟨HSET.out, Hbsn.out, Gbs.out, HB162.out⟩⟩
        · have hcv := cv16 Hbb.out
          go_simp
          clear hcv
          refine hK.out _ _ (trivial : TT _) (fun hHeld => ?_)
          clear hK K
          try simp only [Act.put, setIfInBounds_toArray, set_cons_zero, set_cons_succ]
          refine takeOne (i := 0) (by kernel_rfl) rfl (by rfl) (fun K hK => ?_)
          go_simp
          have hbl : Below W153.heap.size W153 (W153.alloc (.cells (fillc 0 32 0) 5)) := (Below.refl _ W153).alloc (Nat.le_refl _) _
          have HB164 := Lib.hid (HB153.out.trans (hbl.mono HB153.out.size))
          have hz := Has.made W153 5 (fillc 0 32 0)
          have Hbenn := Lib.hid (Hben.out.of_alloc (.cells (fillc 0 32 0) 5))
          have Hbbn := Lib.hid (Hbb.out.of_alloc (.cells (fillc 0 32 0) 5))
          generalize W153.alloc (.cells (fillc 0 32 0) 5) = W164 at HB164 hz Hbenn Hbbn ⊢
          obtain ⟨ba, hbe⟩ : ∃ b, W153.heap.size = b := ⟨_, rfl⟩
          rw [hbe] at hz ⊢
          have Gba : Hid (w1.heap.size ≤ ba) := Lib.hid (by rw [← hbe]; exact HB153.out.size)
          have Hba := Lib.hid hz
          clear hz hbl hbe
          refine hK.out _ _ (trivial : TT _) (fun hHeld => ?_)
          clear hK K
          try simp only [Act.put, setIfInBounds_toArray, set_cons_zero, set_cons_succ]
          refine takeOne (i := 1) (by kernel_rfl) rfl (by rfl) (fun K hK => ?_)
          have hcv := cv32 Hba.out
          go_simp
          clear hcv
          refine hK.out _ _ (trivial : TT _) (fun hHeld => ?_)
          clear hK K
          try simp only [Act.put, setIfInBounds_toArray, set_cons_zero, set_cons_succ]
          first
          | (refine tkW (i := 4) (v := ?_) rfl rfl ?_ ?_; rotate_left; (focus (intro w hSw; (try dsimp only at hSw); go_simp; first | done | with_reducible rfl)); (simp only [Act.at, setIfInBounds_toArray, set_cons_zero, set_cons_succ]))
          | (refine tkU (i := 4) rfl rfl ?_; (simp only [Act.at, setIfInBounds_toArray, set_cons_zero, set_cons_succ]))
          refine takeOne (i := 5) (by kernel_rfl) rfl (by rfl) (fun K hK => ?_)
          go_simp
          have hbl : Below W164.heap.size W164 (W164.alloc (.cells #[.string ⟨#[120]⟩, .string (S z32), .string (S z16), .bool false] 51)) := (Below.refl _ W164).alloc (Nat.le_refl _) _
          have HB166 := Lib.hid (HB164.out.trans (hbl.mono HB164.out.size))
          have hnx : be ≠ W164.heap.size := fun e => by have := Hbenn.out.lt; omega
          have hz := Has.made W164 51 #[.string ⟨#[120]⟩, .string (S z32), .string (S z16), .bool false]
          have Hbennn := Lib.hid (Hbenn.out.of_alloc (.cells #[.string ⟨#[120]⟩, .string (S z32), .string (S z16), .bool false] 51))
          have Hbbnn := Lib.hid (Hbbn.out.of_alloc (.cells #[.string ⟨#[120]⟩, .string (S z32), .string (S z16), .bool false] 51))
          have Hban := Lib.hid (Hba.out.of_alloc (.cells #[.string ⟨#[120]⟩, .string (S z32), .string (S z16), .bool false] 51))
          generalize W164.alloc (.cells #[.string ⟨#[120]⟩, .string (S z32), .string (S z16), .bool false] 51) = W166 at HB166 hz Hbennn Hbbnn Hban ⊢
          obtain ⟨bs, hbe⟩ : ∃ b, W164.heap.size = b := ⟨_, rfl⟩
          rw [hbe] at hz hnx ⊢
          have NBE : Hid (bs ≠ be) := Lib.hid (fun e => hnx e.symm)
          clear hnx
          have Gbs : Hid (w1.heap.size ≤ bs) := Lib.hid (by rw [← hbe]; exact HB164.out.size)
          have Hbs := Lib.hid hz
          clear hz hbl hbe
          refine hK.out _ _ (trivial : TT _) (fun hHeld => ?_)
          clear hK K
          try simp only [Act.put, setIfInBounds_toArray, set_cons_zero, set_cons_succ]
          first
          | (refine tkW (i := 6) (v := ?_) rfl rfl ?_ ?_; rotate_left; (focus (intro w hSw; (try dsimp only at hSw); go_simp; first | done | with_reducible rfl)); (simp only [Act.at, setIfInBounds_toArray, set_cons_zero, set_cons_succ]))
          | (refine tkU (i := 6) rfl rfl ?_; (simp only [Act.at, setIfInBounds_toArray, set_cons_zero, set_cons_succ]))
          refine takeOne (i := 8) (by kernel_rfl) rfl (by rfl) (fun K hK => ?_)
          have z0 : W166.cell? ⟨be, 0, none⟩ = some (.string ⟨#[]⟩) := Hbennn.out.cell 0
          have f0 : W166.frozen? ⟨be, 0, none⟩ = false := Hbennn.out.free 0
          have z1 : W166.cell? ⟨be, 1, none⟩ = some (.int .i64 0) := Hbennn.out.cell 1
          have f1 : W166.frozen? ⟨be, 1, none⟩ = false := Hbennn.out.free 1
          have z2 : W166.cell? ⟨be, 2, none⟩ = some (.int .i64 0) := Hbennn.out.cell 2
          have f2 : W166.frozen? ⟨be, 2, none⟩ = false := Hbennn.out.free 2
          have z3 : W166.cell? ⟨be, 3, none⟩ = some (.int .i64 0) := Hbennn.out.cell 3
          have f3 : W166.frozen? ⟨be, 3, none⟩ = false := Hbennn.out.free 3
          have z4 : W166.cell? ⟨be, 4, none⟩ = some (.slice none 0 0) := Hbennn.out.cell 4
          have f4 : W166.frozen? ⟨be, 4, none⟩ = false := Hbennn.out.free 4
          have z5 : W166.cell? ⟨be, 5, none⟩ = some (.bool false) := Hbennn.out.cell 5
          have f5 : W166.frozen? ⟨be, 5, none⟩ = false := Hbennn.out.free 5
          have z6 : W166.cell? ⟨be, 6, none⟩ = some (.slice none 0 0) := Hbennn.out.cell 6
          have f6 : W166.frozen? ⟨be, 6, none⟩ = false := Hbennn.out.free 6
          have hne : bs ≠ be := NBE.out
          go_simp
          have hset := set7 Hbennn.out (.string ⟨#[97]⟩) (.int .i64 0) (.int .i64 0) (.int .i64 0) (.slice (some ⟨bs, 0, none⟩) 1 1) (.bool false) (.slice none 0 0)
          have hon := only7 W166 be (.string ⟨#[97]⟩) (.int .i64 0) (.int .i64 0) (.int .i64 0) (.slice (some ⟨bs, 0, none⟩) 1 1) (.bool false) (.slice none 0 0)
          have Hbsn := Lib.hid ((Mv.of_only hon (s := [be]) (by simp)).has Hbs.out (by rw [List.mem_singleton]; exact hne))
          have HB167 := Lib.hid (hon.below HB166.out HB166.out.size Gbe.out)
          generalize (((((((W166.setCell ⟨be, 0, none⟩ (.string ⟨#[97]⟩)).setCell ⟨be, 1, none⟩ (.int .i64 0)).setCell ⟨be, 2, none⟩ (.int .i64 0)).setCell ⟨be, 3, none⟩ (.int .i64 0)).setCell ⟨be, 4, none⟩ (.slice (some ⟨bs, 0, none⟩) 1 1)).setCell ⟨be, 5, none⟩ (.bool false)).setCell ⟨be, 6, none⟩ (.slice none 0 0)) = W167 at hset hon Hbsn HB167 ⊢
          have HSET := Lib.hid hset
          clear hset hon hne z0 z1 z2 z3 z4 z5 z6 f0 f1 f2 f3 f4 f5 f6
          refine hK.out _ _ (trivial : TT _) (fun hHeld => ?_)
          clear hK K
          try simp only [Act.put, setIfInBounds_toArray, set_cons_zero, set_cons_succ]
          refine wpAnyH_done (by kernel_rfl) ?_ _
          clear hHeld
          go_wp2_with fail
          go_meet
          exact ⟨be, bs, rfl, Lib.hid ⟨HSET.out, Hbsn.out, Gbs.out, HB167.out⟩⟩
  case rest =>
    obtain ⟨be, bs, rfl, HF⟩ := hcut
    obtain ⟨hE, hL, hbs, hb2⟩ := HF.out
    have hlt : ∀ y ∈ q :: s, y < w1.heap.size := fun y hy => by
      rcases List.mem_cons.1 hy with rfl | hy
      · exact HS.out.2.1.1
      · exact HS.out.2.1.2 y hy
    have hA := stApply (HS.out.1.below hb2) Sta.Inv.zero (by decide) (by decide) (v := Sta.aw1) (A := some ⟨bs, 0, none⟩) (ca := 1) (B := none) (cb := 0) (by rw [List.append_nil]; exact EntIn.one hL (fun hx => by have := hlt _ hx; omega)) Sta.few1
    rw [aw1_val, Sta.ck1, if_pos rfl] at hA
    have HA := Lib.hid hA
    have e0 : wc.cell? ⟨be, 0, none⟩ = some (.string ⟨#[97]⟩) := hE.cell 0
    have e1 : wc.cell? ⟨be, 1, none⟩ = some (.int .i64 0) := hE.cell 1
    have e2 : wc.cell? ⟨be, 2, none⟩ = some (.int .i64 0) := hE.cell 2
    have e3 : wc.cell? ⟨be, 3, none⟩ = some (.int .i64 0) := hE.cell 3
    have e4 : wc.cell? ⟨be, 4, none⟩ = some (.slice (some ⟨bs, 0, none⟩) 1 1) := hE.cell 4
    have e5 : wc.cell? ⟨be, 5, none⟩ = some (.bool false) := hE.cell 5
    have e6 : wc.cell? ⟨be, 6, none⟩ = some (.slice none 0 0) := hE.cell 6
    have HB2 := Lib.hid (HS.out.2.2.2.trans (hb2.mono HS.out.2.2.2.size))
    have HW := Lib.hid HS.out.2.2.1
    clear hA hE hL hbs hb2 hlt HF HS hmk32 hmk16
    go_wp2_with fail
    refine HA.out.mono ?_
    rintro r w3 ⟨rfl, s3, hst3, hm3, hs3⟩
    have HB3 := Lib.hid (hm3.below HB2.out HB2.out.size HW.out)
    have HW3 : Hid (∀ x ∈ q :: s3, w.heap.size ≤ x) := Lib.hid (fun x hx => by
      rcases List.mem_cons.1 hx with rfl | hx
      · exact HW.out _ (List.mem_cons_self ..)
      · rcases hs3 x hx with h | h
        · exact HW.out x (List.mem_cons_of_mem _ h)
        · exact Nat.le_trans HB2.out.size h)
    have hA2 := stApply hst3 (Sta.Inv.zero.step _) (by rw [Sta.qn1]; decide) (by decide) (v := Sta.aw2) (A := none) (ca := 0) (B := none) (cb := 0) (EntIn.bare _ _) Sta.few2
    rw [aw2_val, Sta.ck2, if_pos rfl] at hA2
    have HA2 := Lib.hid hA2
    clear hst3 hm3 hs3 hA2 HA e0 e1 e2 e3 e4 e5 e6 HB2 HW
    go_wp2_with fail
    refine HA2.out.mono ?_
    rintro r w4 ⟨rfl, s4, hst4, hm4, hs4⟩
    have HB4 := Lib.hid (hm4.below HB3.out HB3.out.size HW3.out)
    have HW4 : Hid (∀ x ∈ q :: s4, w.heap.size ≤ x) := Lib.hid (fun x hx => by
      rcases List.mem_cons.1 hx with rfl | hx
      · exact HW3.out _ (List.mem_cons_self ..)
      · rcases hs4 x hx with h | h
        · exact HW3.out x (List.mem_cons_of_mem _ h)
        · exact Nat.le_trans HB3.out.size h)
    have hA3 := stApply hst4 ((Sta.Inv.zero.step _).step _) (by rw [Sta.qn2]; decide) (by decide) (v := Sta.aw3) (A := none) (ca := 0) (B := none) (cb := 0) (EntIn.bare _ _) Sta.few3
    rw [aw3_val, Sta.ck3, if_neg (by decide)] at hA3
    have HA3 := Lib.hid hA3
    clear hst4 hm4 hs4 hA3 HA2 HB3 HW3
    go_wp2_with fail
    refine HA3.out.mono ?_
    rintro r w5 ⟨rfl, s5, hst5, hm5, hs5⟩
    have HB5 := Lib.hid (hm5.below HB4.out HB4.out.size HW4.out)
    have hN := stLen hst5 (((Sta.Inv.zero.step _).step _).step _)
    rw [Sta.ln3] at hN
    have HN := Lib.hid hN
    clear hst5 hm5 hs5 hN HA3 HB4 HW4
    go_wp2_with fail
    refine HN.out.mono ?_
    rintro r w6 ⟨rfl, hb6⟩
    have HB6 := Lib.hid (HB5.out.trans (hb6.mono HB5.out.size))
    clear hb6 HN
    go_wp2_with fail
    go_ret
    exact ⟨rfl, HB6.out⟩
end Go.Proofs.Ytojemaaljjibiaa
