/-
  An own row of fields: as it grows, and as it is sorted.
-/
import Derived.Test.YtfppobnfajkmmaaStable
import Derived.Test.YtfppobnfajkmmaaFind
import Derived.Laws.OwnMore
namespace Go.Proofs.Ytfppobnfajkmmaa
open Go.RowKit Go.Sort Go.Lib
set_option linter.unusedVariables false

/-- The cells of fields. -/
def fl (l : List Fld) : List Value := l.flatMap Fld.cs
theorem fl_len (l : List Fld) : (fl l).length = l.length * 6 := by
  unfold fl
  induction l with
  | nil => rfl
  | cons x l ih => rw [List.flatMap_cons, List.length_append, ih, Fld.cs_len, List.length_cons]; omega
theorem fl_snoc (l : List Fld) (x : Fld) : fl (l ++ [x]) = fl l ++ x.cs := by simp [fl]
theorem fl_append (l m : List Fld) : fl (l ++ m) = fl l ++ fl m := by simp [fl]
theorem fl_one (l : List Fld) : ∀ u ∈ fl l, u.oneCell' = true := by
  intro u hu
  obtain ⟨x, _, hx⟩ := List.mem_flatMap.1 hu
  exact x.cs_one u hx
theorem fl_get (l : List Fld) : ∀ (i c : Nat) (hi : i < l.length), c < 6 → (fl l)[i * 6 + c]? = l[i].cs[c]? := by
  induction l with
  | nil => intro i c hi; cases hi
  | cons x l ih =>
    intro i c hi hc
    have e : fl (x :: l) = x.cs ++ fl l := by simp [fl]
    rw [e]
    cases i with
    | zero => rw [List.getElem?_append_left (by rw [Fld.cs_len]; omega)]; simp
    | succ i =>
      rw [List.getElem?_append_right (by rw [Fld.cs_len]; omega), Fld.cs_len, show (i + 1) * 6 + c - 6 = i * 6 + c by omega]
      simp only [List.getElem_cons_succ]
      exact ih i c (by simpa using hi) hc

theorem own_keep {w w' : World} {B e s n : Nat} {v : Value} {xs : List Value} (h : w.ownsRow B e s v n xs) (hk : ∀ k, v.ownBlock = some k → w'.heap[k]? = w.heap[k]?) : w'.ownsRow B e s v n xs := by
  refine ⟨h.1, ?_⟩
  rcases h.2 with hh | ⟨g, cap, cur, rfl, hB, hg, hr⟩
  · exact Or.inl hh
  · exact Or.inr ⟨g, cap, cur, rfl, hB, (hk g rfl).trans hg, hr⟩
theorem own_below' {w w' : World} {B e s n : Nat} {v : Value} {xs : List Value} (h : w.ownsRow B e s v n xs) (hb : Below w.heap.size w w') : w'.ownsRow B e s v n xs :=
  own_keep h (fun k hk => hb.block k (h.lt k hk).2)

/-- An own row, opened. -/
theorem own_fields {w : World} {B n : Nat} {v : Value} {L : List Fld} (h : w.ownsRow B 40 6 v n (fl L)) (hn : n = L.length) :
    (v = .slice none 0 0 ∧ L = []) ∨ ∃ g cap, v = .slice (some ⟨g, 0, none⟩) L.length cap ∧ B ≤ g ∧ g < w.heap.size ∧ HoldsK Fld.cs 6 w g 0 L.toArray := by
  subst hn
  rcases h.2 with ⟨rfl, h0⟩ | ⟨g, cap, cur, rfl, hB, hg, hr⟩
  · exact Or.inl ⟨rfl, List.eq_nil_of_length_eq_zero h0⟩
  · refine Or.inr ⟨g, cap, rfl, hB, (h.lt g rfl).2, ?_⟩
    intro t ht
    rw [size_flatK] at ht
    have ht' : t < L.length * 6 := by simpa using ht
    have h1 := h.cellAt t ht'
    have h2 := h.frozenAt t
    rw [Nat.zero_add]
    refine ⟨?_, h2⟩
    rw [h1, get_flatK _ _ _ t ht]
    have e := fl_get L (t / 6) (t % 6) (by omega) (Nat.mod_lt _ (by decide))
    rw [show t / 6 * 6 + t % 6 = t by omega] at e
    rw [e]
    have hq : L.toArray[t / 6]! = L[t / 6]'(by omega) := by
      rw [getElem!_pos L.toArray (t / 6) (by simpa using (show t / 6 < L.length by omega))]
      simp
    rw [hq]
    have h6 : t % 6 < (L[t / 6]'(by omega)).cs.length := by rw [Fld.cs_len]; exact Nat.mod_lt _ (by decide)
    rw [List.getElem?_eq_getElem h6, getElem!_pos (L[t / 6]'(by omega)).cs (t % 6) h6]
    rfl

theorem SW_below {B : Nat} {w0 W : World} {g m : Nat} {d : Array Fld} {os : Array Obj} (h : Below B w0 W) (hg : B ≤ g) (hB : B ≤ W.heap.size) : Below B w0 (SW W g 0 m d os) := by
  refine h.trans ⟨rfl, rfl, rfl, SW_size _ _ _ _ _ _, fun i hi => ?_⟩
  show (grow (putRowK Fld.cs 6 (Sort.ahead W m) g 0 d) os).heap[i]? = W.heap[i]?
  rw [heap_grow_old _ _ (by rw [size_putRowK]; show i < W.heap.size; omega)]
  show (W.heap.modify g _)[i]? = W.heap[i]?
  rw [Array.getElem?_modify, if_neg (by omega)]
theorem holds_fsl {W : World} {g : Nat} {L : List Fld} (h : HoldsK Fld.cs 6 W g 0 L.toArray) (hg : g < W.heap.size) : FSl W g (some ⟨g, 0, none⟩) L := fun _ => by
  refine ⟨0, rfl, hg, fun i hi => ?_⟩
  have hi' : i < L.toArray.size := by simpa using hi
  have hq : L.toArray[i]! = L[i] := by rw [getElem!_pos L.toArray i hi']; simp
  have hc := fun c hc => h.cell (i := i) (c := c) hi' hc
  rw [hq] at hc
  exact ⟨(hc 0 (by decide)).1, (hc 1 (by decide)).1, (hc 2 (by decide)).1, (hc 3 (by decide)).1, (hc 4 (by decide)).1, (hc 5 (by decide)).1⟩

/-! ### The sort of nothing -/
theorem ins_nil (p : Option Addr) (cap : Nat) (w : World) :
    Calls Try.prog 55 #[.slice p 0 cap, .int .i64 0, .int .i64 0, .func (.func 20) #[] #[]] w fun e w' => e = .returned (.tuple #[]) ∧ w' = w := by
  go_enter Try.func55, Try.ntmps55
  go_wp2_with fail
  go_loopg [8] 0 (fun g1 va wr => va = .int .i64 1 ∧ wr = w)
  case atStart => exact ⟨rfl, rfl⟩
  case round =>
    obtain ⟨rfl, rfl⟩ := hrel
    go_wp2_with fail
    go_end0
    exact ⟨rfl, rfl⟩
theorem stable_nil (p : Option Addr) (cap : Nat) (w : World) :
    Calls Try.prog 41 #[.slice p 0 cap, .int .i64 0, .func (.func 20) #[] #[]] w fun e w' => e = .returned (.tuple #[]) ∧ w' = w := by
  have HI := fun W => ins_nil p cap W
  have HI := Lib.hid HI
  go_enter Try.func41, Try.ntmps41
  go_wp2_with fail
  go_loopg [7, 8] 0 (fun g1 va vb wr => va = .int .i64 0 ∧ vb = .int .i64 20 ∧ wr = w)
  case atStart => exact ⟨rfl, rfl, rfl⟩
  case round =>
    obtain ⟨rfl, rfl, rfl⟩ := hrel
    go_wp2_with fail
    refine (HI.out _).mono ?_
    rintro r w1 ⟨rfl, rfl⟩
    go_wp2_with fail
    go_loopg [6] 0 (fun g1 v6 wr => v6 = .int .i64 20 ∧ wr = w1)
    case atStart => exact ⟨rfl, rfl⟩
    case round =>
      obtain ⟨rfl, rfl⟩ := hrel
      go_wp2_with fail
      go_end0
      exact ⟨rfl, rfl⟩
theorem sortStable_nil (p : Option Addr) (cap : Nat) (w : World) :
    Calls Try.prog 19 #[.slice p 0 cap, .func (.func 20) #[] #[]] w fun e w' => e = .returned (.tuple #[]) ∧ w' = w := by
  have HI := fun W => stable_nil p cap W
  have HI := Lib.hid HI
  go_enter Try.func19, Try.ntmps19
  go_wp2_with fail
  refine (HI.out _).mono ?_
  rintro r w1 ⟨rfl, rfl⟩
  go_wp2_with fail
  go_end0
  exact ⟨rfl, rfl⟩
end Go.Proofs.Ytfppobnfajkmmaa
