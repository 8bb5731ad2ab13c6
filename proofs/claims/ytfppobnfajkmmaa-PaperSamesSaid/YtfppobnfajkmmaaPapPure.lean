/-
  A paper's bytes, plain; what a paper that may be is like. No program stands here.
-/
import Derived.Test.YtfppobnfajkmmaaPapB
import Derived.Test.YtfppobnfajkmmaaStable
import Derived.Test.YtfppobnfajkmmaaValG
namespace Go.Proofs.Ytfppobnfajkmmaa
open Go.RowKit
set_option linter.unusedVariables false

theorem encL_nz {n : Nat} (h : n ≤ 1000000) : ¬ M.encL (n : Int) = [] := by
  unfold M.encL
  rw [if_pos ⟨by omega, by omega⟩]
  simp
theorem encL_nzi {n : Int} (h0 : 0 ≤ n) (h : n ≤ 1000000) : ¬ M.encL n = [] := by
  unfold M.encL
  rw [if_pos ⟨by omega, by omega⟩]
  simp
theorem enc_len {x : Val} (h : x.right = true) : x.enc.length ≤ 216 := by
  have hle := Val.right_le h
  have h1 := M.encL_len x.kind
  have h2 := M.encL_len x.text.length
  show (M.encL x.kind ++ x.body).length ≤ 216
  rw [List.length_append]
  have hb : x.body.length ≤ 208 := by
    show (if x.kind = 1 then [if x.flag then 1 else 0] else if x.kind = 2 then oct 8 (w64 x.int) else if x.kind = 3 then oct 8 x.bits else if x.kind = 4 then M.encL x.text.length ++ x.text else [] : List UInt8).length ≤ 208
    split
    · simp
    · split
      · rw [oct_len]; omega
      · split
        · rw [oct_len]; omega
        · split
          · rw [List.length_append]; omega
          · simp
  omega

theorem Val.clean_clean (x : Val) : x.clean.clean = x.clean := by
  obtain ⟨k, f, i, b, t⟩ := x
  unfold Val.clean
  simp only []
  by_cases h1 : k = 1
  · simp [h1]
  by_cases h2 : k = 2
  · simp [h2]
  by_cases h3 : k = 3
  · have : Val.cbits (Val.cbits b) = Val.cbits b := by
      cases hn : Val.nan b
      · have e : Val.cbits b = b := by unfold Val.cbits; rw [if_neg (by rw [hn]; decide)]
        rw [e, e]
      · have e : Val.cbits b = 9221120237041090561 := by unfold Val.cbits; rw [if_pos hn]
        rw [e]
        decide
    simp [h3, this]
  by_cases h4 : k = 4
  · simp [h4]
  simp [h1, h2, h3, h4]

namespace Pap
/-- A field that may be. -/
def good (f : Fld) : Prop := word 16 f.name = true ∧ f.val.right = true ∧ f.val.ok
def encF (T : List Fld) : List UInt8 := T.flatMap fun f => (M.encL f.name.length ++ f.name) ++ (M.encL f.val.enc.length ++ f.val.enc)
/-- A tidy paper's bytes. -/
def enc (id : List UInt8) (cls : Int) (T : List Fld) : List UInt8 := (M.encL id.length ++ id) ++ M.encL cls ++ M.encL T.length ++ encF T
def tidy (L : List Fld) : List Fld := fsort (L.map Fld.clean)
/-- What Bytes answers. -/
def bytes (id : List UInt8) (cls : Int) (L : List Fld) : List UInt8 × Int := if check id cls L = 0 then (enc id cls (tidy L), 0) else ([], check id cls L)

theorem mem_fsort {x : Fld} {l : List Fld} : x ∈ fsort l ↔ x ∈ l := by
  have h := (Stab.sort_spec Fld.name l).2 x.name
  have key : ∀ m : List Fld, x ∈ m ↔ x ∈ Stab.of Fld.name x.name m := fun m => by
    unfold Stab.of
    rw [List.mem_filter]
    simp
  rw [key (fsort l), key l]
  show x ∈ Stab.of Fld.name x.name (Stab.sort Fld.name l) ↔ _
  rw [h]
theorem fieldsE_zero : ∀ {L : List Fld}, fieldsE L = 0 → ∀ f ∈ L, word 16 f.name = true ∧ f.val.clean.right = true := by
  intro L
  induction L with
  | nil => intro _ f hf; cases hf
  | cons g L ih =>
    intro h f hf
    unfold fieldsE at h
    by_cases h1 : word 16 g.name = false
    · rw [if_pos h1] at h; cases h
    · rw [if_neg h1] at h
      by_cases h2 : g.val.clean.right = false
      · rw [if_pos h2] at h; cases h
      · rw [if_neg h2] at h
        rcases List.mem_cons.1 hf with rfl | hf
        · exact ⟨by simpa using h1, by simpa using h2⟩
        · exact ih h f hf
theorem fieldsE_of : ∀ {L : List Fld}, (∀ f ∈ L, word 16 f.name = true ∧ f.val.clean.right = true) → fieldsE L = 0 := by
  intro L
  induction L with
  | nil => intro _; rfl
  | cons g L ih =>
    intro h
    obtain ⟨h1, h2⟩ := h g List.mem_cons_self
    unfold fieldsE
    rw [if_neg (by rw [h1]; decide), if_neg (by rw [h2]; decide)]
    exact ih (fun f hf => h f (List.mem_cons_of_mem _ hf))
theorem check_zero {id : List UInt8} {cls : Int} {L : List Fld} (h : check id cls L = 0) :
    word 24 id = true ∧ (0 ≤ cls ∧ cls < 8) ∧ (0 < L.length ∧ L.length ≤ 12) ∧ fieldsE L = 0 ∧ (L.map Fld.name).Nodup := by
  unfold check at h
  by_cases h1 : word 24 id = false
  · rw [if_pos h1] at h; cases h
  rw [if_neg h1] at h
  by_cases h2 : cls < 0 ∨ 8 ≤ cls
  · rw [if_pos h2] at h; cases h
  rw [if_neg h2] at h
  by_cases h3 : L.length = 0 ∨ 12 < L.length
  · rw [if_pos h3] at h; cases h
  rw [if_neg h3] at h
  by_cases h4 : fieldsE L ≠ 0
  · rw [if_pos h4] at h; exact absurd h h4
  rw [if_neg h4] at h
  by_cases h5 : (L.map Fld.name).Nodup
  · exact ⟨by simpa using h1, by omega, by omega, by simpa using h4, h5⟩
  · rw [if_neg h5] at h; cases h
theorem tidy_len (L : List Fld) : (tidy L).length = L.length := by unfold tidy; rw [fsort_len, List.length_map]
theorem tidy_good {id : List UInt8} {cls : Int} {L : List Fld} (h : check id cls L = 0) (hok : ∀ x ∈ L, x.ok) : ∀ f ∈ tidy L, good f := by
  intro f hf
  unfold tidy at hf
  rw [mem_fsort, List.mem_map] at hf
  obtain ⟨g, hg, rfl⟩ := hf
  obtain ⟨h1, h2⟩ := fieldsE_zero (check_zero h).2.2.2.1 g hg
  exact ⟨h1, h2, Val.clean_ok (hok g hg)⟩

/-- What a writer holds behind the head and so many fields. -/
def lay (id : List UInt8) (cls : Int) (n : Nat) (T : List Fld) : Wt.St := T.foldl (fun st f => Wt.text f.val.enc (Wt.text f.name st)) (Wt.num n (Wt.num cls (Wt.text id ([], false))))
theorem lay_nil (id : List UInt8) (cls : Int) (n : Nat) : lay id cls n [] = Wt.num n (Wt.num cls (Wt.text id ([], false))) := by
  unfold lay
  rw [List.foldl_nil]
theorem tidy_eq (L : List Fld) : fsort (L.map Fld.clean) = tidy L := rfl
theorem enc_eq (id : List UInt8) (cls : Int) (T : List Fld) : enc id cls T = (M.encL id.length ++ id) ++ M.encL cls ++ M.encL T.length ++ encF T := rfl
theorem bytes_eq (id : List UInt8) (cls : Int) (L : List Fld) : bytes id cls L = if check id cls L = 0 then (enc id cls (tidy L), 0) else ([], check id cls L) := rfl
theorem lay_snoc (id : List UInt8) (cls : Int) (n : Nat) (T : List Fld) (f : Fld) : lay id cls n (T ++ [f]) = Wt.text f.val.enc (Wt.text f.name (lay id cls n T)) := by
  unfold lay; rw [List.foldl_append, List.foldl_cons, List.foldl_nil]
theorem lay_flat (id : List UInt8) (cls : Int) (n : Nat) (T : List Fld) : Wt.flat (lay id cls n T) = (M.encL id.length ++ id) ++ M.encL cls ++ M.encL n ++ encF T := by
  have key : ∀ (T : List Fld) (st : Wt.St), Wt.flat (T.foldl (fun st f => Wt.text f.val.enc (Wt.text f.name st)) st) = Wt.flat st ++ encF T := by
    intro T
    induction T with
    | nil => intro st; simp [encF]
    | cons f T ih => intro st; rw [List.foldl_cons, ih, Wt.flat_text, Wt.flat_text]; simp [encF]
  have e0 : Wt.flat ([], false) = [] := rfl
  show Wt.flat (T.foldl _ _) = _
  rw [key, Wt.flat_num, Wt.flat_num, Wt.flat_text, e0, List.nil_append]
theorem text_bad (s : List UInt8) (st : Wt.St) (h : s.length ≤ 1000000) : (Wt.text s st).2 = st.2 := by
  unfold Wt.text
  rw [Wt.bad_raw, Wt.bad_num, decide_eq_false (encL_nz h), Bool.or_false]
theorem lay_good (id : List UInt8) (cls : Int) (n : Nat) (hid : id.length ≤ 1000000) (hn : n ≤ 1000000) (hc : 0 ≤ cls ∧ cls < 8) : ∀ (T : List Fld), (∀ f ∈ T, good f) → (lay id cls n T).2 = false := by
  have key : ∀ (T : List Fld) (st : Wt.St), (∀ f ∈ T, good f) → st.2 = false → (T.foldl (fun st f => Wt.text f.val.enc (Wt.text f.name st)) st).2 = false := by
    intro T
    induction T with
    | nil => intro st _ h; exact h
    | cons f T ih =>
      intro st hT h
      have hg := hT f List.mem_cons_self
      rw [List.foldl_cons]
      refine ih _ (fun g hg => hT g (List.mem_cons_of_mem _ hg)) ?_
      have h1 := (word_len hg.1).2
      have h2 := enc_len hg.2.1
      rw [text_bad _ _ (by omega), text_bad _ _ (by omega)]
      exact h
  intro T hT
  refine key T _ hT ?_
  rw [Wt.bad_num, Wt.bad_num, text_bad _ _ hid, decide_eq_false (encL_nz hn), decide_eq_false (encL_nzi hc.1 (by omega))]
  rfl
theorem encF_len (T : List Fld) (h : ∀ f ∈ T, good f) : (encF T).length ≤ 248 * T.length := by
  induction T with
  | nil => simp [encF]
  | cons f T ih =>
    have hg := h f List.mem_cons_self
    have h1 := (word_len hg.1).2
    have h2 := enc_len hg.2.1
    have h3 := M.encL_len f.name.length
    have h4 := M.encL_len f.val.enc.length
    have h5 := ih (fun g hg => h g (List.mem_cons_of_mem _ hg))
    have e : encF (f :: T) = ((M.encL f.name.length ++ f.name) ++ (M.encL f.val.enc.length ++ f.val.enc)) ++ encF T := by simp [encF]
    rw [e]
    simp only [List.length_append, List.length_cons]
    omega
theorem lay_len (id : List UInt8) (cls : Int) (n : Nat) (T : List Fld) (h : ∀ f ∈ T, good f) (hid : id.length ≤ 1000000) : (Wt.flat (lay id cls n T)).length ≤ 1000024 + 248 * T.length := by
  rw [lay_flat]
  have h1 := M.encL_len id.length
  have h2 := M.encL_len cls
  have h3 := M.encL_len n
  have h4 := encF_len T h
  simp only [List.length_append]
  omega
end Pap
end Go.Proofs.Ytfppobnfajkmmaa
