/-
  A paper's bytes are read as the paper, plain; what is read is tidy, and has just these bytes. No program stands here.
-/
import Derived.Test.YtfppobnfajkmmaaPapE
import Derived.Test.YtfppobnfajkmmaaValPure
namespace Go.Proofs.Ytfppobnfajkmmaa
open Go.RowKit
set_option linter.unusedVariables false

theorem encL_two : ∀ n : Fin 256, (M.encL (n.val : Int)).length ≤ 2 := by decide +kernel
theorem enc_len208 {x : Val} (h : x.right = true) : x.enc.length ≤ 208 := by
  have hle := Val.right_le h
  have h1 : (M.encL x.kind).length ≤ 2 := by
    obtain ⟨k, hk⟩ := Int.eq_ofNat_of_zero_le hle.1
    rw [hk]
    exact encL_two ⟨k, by omega⟩
  have h2 : (M.encL x.text.length).length ≤ 2 := encL_two ⟨x.text.length, by omega⟩
  show (M.encL x.kind ++ x.body).length ≤ 208
  rw [List.length_append]
  have hb : x.body.length ≤ 202 := by
    show (if x.kind = 1 then [if x.flag then 1 else 0] else if x.kind = 2 then oct 8 (w64 x.int) else if x.kind = 3 then oct 8 x.bits else if x.kind = 4 then M.encL x.text.length ++ x.text else [] : List UInt8).length ≤ 202
    split
    · simp
    · split
      · rw [oct_len]; omega
      · split
        · rw [oct_len]; omega
        · split
          · rw [List.length_append]; omega
          · simp
  omega

namespace Pap
theorem readF_enc (f : Fld) (hg : good f) (r : List UInt8) : readF ((M.encL f.name.length ++ f.name) ++ (M.encL f.val.enc.length ++ f.val.enc) ++ r, 0) = (f, (r, 0)) := by
  obtain ⟨n, x⟩ := f
  obtain ⟨h1, h2, h3⟩ := hg
  dsimp only at h1 h2 h3 ⊢
  have hn := (word_len h1).2
  have he := enc_len208 h2
  have e1 : R.text 16 ((M.encL n.length ++ n) ++ (M.encL x.enc.length ++ x.enc) ++ r, 0) = (n, (M.encL x.enc.length ++ x.enc ++ r, 0)) := by
    rw [List.append_assoc (M.encL n.length ++ n)]
    exact R.text_fwd 16 n _ (by omega) (by omega)
  have e2 : R.text 208 (M.encL x.enc.length ++ x.enc ++ r, 0) = (x.enc, (r, 0)) := R.text_fwd 208 x.enc r (by omega) (by omega)
  have e3 := read_enc h3 h2
  unfold readF
  rw [e1]
  dsimp only
  rw [e2]
  dsimp only
  rw [e3]
  rfl
theorem readFs_enc (r : List UInt8) : ∀ (T : List Fld) (acc : List Fld), (∀ f ∈ T, good f) → readFs T.length (encF T ++ r, 0) acc = (acc ++ T, (r, 0)) := by
  intro T
  induction T with
  | nil => intro acc _; simp [encF, readFs]
  | cons f T ih =>
    intro acc h
    have e : encF (f :: T) ++ r = (M.encL f.name.length ++ f.name) ++ (M.encL f.val.enc.length ++ f.val.enc) ++ (encF T ++ r) := by simp [encF]
    rw [List.length_cons, readFs_succ, e, readF_enc f (h f List.mem_cons_self)]
    dsimp only
    rw [ih _ (fun g hg => h g (List.mem_cons_of_mem _ hg))]
    simp
theorem readH_enc (id : List UInt8) (cls : Int) (T : List Fld) (hid : word 24 id = true) (hc : 0 ≤ cls ∧ cls < 8) (hT : T.length ≤ 12) : readH (enc id cls T) = (id, cls, (T.length : Int), (encF T, 0)) := by
  have h24 := (word_len hid).2
  have e0 : enc id cls T = M.encL id.length ++ id ++ (M.encL cls ++ (M.encL T.length ++ encF T)) := by rw [enc_eq]; simp
  have e1 := R.text_fwd 24 id (M.encL cls ++ (M.encL T.length ++ encF T)) (by omega) (by omega)
  have e2 := R.num_fwd 7 cls (M.encL T.length ++ encF T) hc.1 (by omega) (by omega)
  have e3 := R.num_fwd 12 (T.length : Int) (encF T) (by omega) (by omega) (by omega)
  rw [readH_eq, e0, e1]
  dsimp only
  rw [e2]
  dsimp only
  rw [e3]

theorem clean_clean (L : List Fld) : (L.map Fld.clean).map Fld.clean = L.map Fld.clean := by
  rw [List.map_map]
  apply List.map_congr_left
  intro x _
  show Fld.mk x.name x.val.clean.clean = Fld.mk x.name x.val.clean
  rw [Val.clean_clean]
theorem tidy_clean (L : List Fld) : (tidy L).map Fld.clean = tidy L := by
  conv => rhs; rw [← List.map_id (tidy L)]
  apply List.map_congr_left
  intro x hx
  unfold tidy at hx
  rw [mem_fsort, List.mem_map] at hx
  obtain ⟨y, _, rfl⟩ := hx
  show Fld.mk y.name y.val.clean.clean = Fld.mk y.name y.val.clean
  rw [Val.clean_clean]
theorem tidy_tidy (L : List Fld) : tidy (tidy L) = tidy L := by
  have h := tidy_clean L
  show fsort ((tidy L).map Fld.clean) = tidy L
  rw [h]
  exact (Stab.sort_unique Fld.name (tidy L) (tidy L) (Stab.sort_spec Fld.name _).1 (fun _ => rfl)).symm
theorem nodup_of_iff (l : List Fld) : (l.map Fld.name).Nodup ↔ ∀ n, (fof n l).length ≤ 1 := by
  rw [List.nodup_iff_count]
  have e : ∀ n, List.count n (l.map Fld.name) = (fof n l).length := fun n => by
    show _ = (l.filter fun a => a.name == n).length
    rw [List.count, List.countP_map, List.countP_eq_length_filter]
    rfl
  exact ⟨fun h n => by rw [← e]; exact h n, fun h n => by rw [e]; exact h n⟩
theorem names_clean (n : List UInt8) (L : List Fld) : (fof n (L.map Fld.clean)).length = (fof n L).length := by
  show ((L.map Fld.clean).filter fun a => a.name == n).length = (L.filter fun a => a.name == n).length
  rw [← List.countP_eq_length_filter, ← List.countP_eq_length_filter, List.countP_map]
  rfl
theorem map_fix {α : Type} {f : α → α} {l : List α} (h : l.map f = l) {x : α} (hx : x ∈ l) : f x = x := by
  have h2 : l.map f = l.map (fun a => a) := by rw [h, List.map_id']
  exact List.map_inj_left.1 h2 x hx
theorem check_tidy {id : List UInt8} {cls : Int} {L : List Fld} (h : check id cls L = 0) (hok : ∀ x ∈ L, x.ok) : check id cls (tidy L) = 0 := by
  obtain ⟨h1, h2, h3, h4, h5⟩ := check_zero h
  have hg := tidy_good h hok
  unfold check
  rw [if_neg (by rw [h1]; decide), if_neg (by omega), if_neg (by rw [tidy_len]; omega)]
  have hf : fieldsE (tidy L) = 0 := fieldsE_of (fun f hf => ⟨(hg f hf).1, by
    have hc := tidy_clean L
    have hx : f.clean = f := by
      have := map_fix hc hf
      exact this
    have hv : f.val.clean = f.val := congrArg Fld.val hx
    rw [hv]
    exact (hg f hf).2.1⟩)
  rw [hf, if_neg (by decide), if_pos]
  rw [nodup_of_iff] at h5 ⊢
  intro n
  show (Stab.of Fld.name n (Stab.sort Fld.name (L.map Fld.clean))).length ≤ 1
  rw [(Stab.sort_spec Fld.name _).2]
  exact Nat.le_trans (Nat.le_of_eq (names_clean n L)) (h5 n)
theorem fin_none : (R.fin (([], 0) : R.St)).2 = 0 := rfl
/-- What was laid is read. -/
theorem readP_bytes {id : List UInt8} {cls : Int} {L : List Fld} (h : check id cls L = 0) (hok : ∀ x ∈ L, x.ok) : readP (enc id cls (tidy L)) = (id, cls, tidy L, 0) := by
  obtain ⟨h1, h2, h3, h4, h5⟩ := check_zero h
  have hg := tidy_good h hok
  have hl := tidy_len L
  have e1 := readH_enc id cls (tidy L) h1 h2 (by omega)
  have e2 := readFs_enc [] (tidy L) [] hg
  rw [List.append_nil, List.nil_append] at e2
  have e3 : bytes id cls (tidy L) = (enc id cls (tidy L), 0) := by rw [bytes_eq, if_pos (check_tidy h hok), tidy_tidy]
  rw [readP_eq, e1]
  dsimp only
  rw [Int.toNat_natCast, e2]
  dsimp only
  rw [fin_none, if_neg (by decide), e3]
  dsimp only
  rw [if_neg (by simp)]
/-- What is read may be, is tidy, and has just these bytes. -/
theorem readP_ok (s : List UInt8) : ((readP s).2.2.2 ≠ 0 → (readP s).1 = [] ∧ (readP s).2.1 = 0 ∧ (readP s).2.2.1 = []) ∧
    ((readP s).2.2.2 = 0 → check (readP s).1 (readP s).2.1 (readP s).2.2.1 = 0 ∧ tidy (readP s).2.2.1 = (readP s).2.2.1 ∧ enc (readP s).1 (readP s).2.1 (readP s).2.2.1 = s) := by
  have hP := readP_eq s
  have hok : ∀ x ∈ (readFs (readH s).2.2.1.toNat (readH s).2.2.2 []).1, x.ok := fun x hx => (readFs_ok _ _ [] (fun x hx => by cases hx) x hx).1
  by_cases h1 : (R.fin (readFs (readH s).2.2.1.toNat (readH s).2.2.2 []).2).2 ≠ 0
  · rw [if_pos h1] at hP
    rw [hP]
    exact ⟨fun _ => ⟨rfl, rfl, rfl⟩, fun h => absurd h h1⟩
  rw [if_neg h1] at hP
  by_cases h2 : (bytes (readH s).1 (readH s).2.1 (readFs (readH s).2.2.1.toNat (readH s).2.2.2 []).1).2 ≠ 0 ∨ (bytes (readH s).1 (readH s).2.1 (readFs (readH s).2.2.1.toNat (readH s).2.2.2 []).1).1 ≠ s
  · rw [if_pos h2] at hP
    rw [hP]
    exact ⟨fun _ => ⟨rfl, rfl, rfl⟩, fun h => by cases h⟩
  rw [if_neg h2] at hP
  generalize hL : (readFs (readH s).2.2.1.toNat (readH s).2.2.2 []).1 = L at hP h2 hok
  generalize hid : (readH s).1 = id at hP h2
  generalize hc : (readH s).2.1 = cls at hP h2
  rw [hP]
  refine ⟨fun h => absurd rfl h, fun _ => ?_⟩
  dsimp only
  have hz : (bytes id cls L).2 = 0 := Decidable.byContradiction fun h => h2 (Or.inl h)
  have hs : (bytes id cls L).1 = s := Decidable.byContradiction fun h => h2 (Or.inr h)
  have hck : check id cls L = 0 := by
    rw [bytes_eq] at hz
    by_cases h : check id cls L = 0
    · exact h
    · rw [if_neg h] at hz; exact hz
  rw [bytes_eq, if_pos hck] at hs
  dsimp only at hs
  obtain ⟨g1, g2, g3, g4, g5⟩ := check_zero hck
  have hg := tidy_good hck hok
  have hl := tidy_len L
  have e1 := readH_enc id cls (tidy L) g1 g2 (by omega)
  have e2 := readFs_enc [] (tidy L) [] hg
  rw [List.append_nil, List.nil_append] at e2
  rw [hs] at e1
  have hTL : tidy L = L := by
    rw [e1] at hL
    dsimp only at hL
    rw [Int.toNat_natCast, e2] at hL
    exact hL
  exact ⟨hck, hTL, by rw [hTL] at hs; exact hs⟩
end Pap
end Go.Proofs.Ytfppobnfajkmmaa
