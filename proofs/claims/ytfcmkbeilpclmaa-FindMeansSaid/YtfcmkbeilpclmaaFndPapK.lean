/-
  The contract of the fifth layer's statements' own Few. The text of XPapK, over less.
-/
import Derived.Test.YtfcmkbeilpclmaaFndFl
import Derived.Test.YtfcmkbeilpclmaaRowC
import Derived.Deep.AppendLies
import Derived.Laws.CopyOwn
import Derived.Laws.OwnMore
namespace Go.Proofs.Ytfcmkbeilpclmaa
open Go.RowKit Go.Lib Go.Sort
set_option linter.unusedVariables false

/-- What is read of a field's block. -/
abbrev FLies (g : Nat) (n : List UInt8) (k : Int) (f : Bool) (i : Int) (b : Nat) (t : List UInt8) (W : World) : Prop :=
  W.cell? ⟨g, 0, none⟩ = some (.string (S n)) ∧ W.cell? ⟨g, 1, none⟩ = some (.int .i64 k) ∧ W.cell? ⟨g, 2, none⟩ = some (.bool f) ∧ W.cell? ⟨g, 3, none⟩ = some (.int .i64 i) ∧ W.cell? ⟨g, 4, none⟩ = some (.int .u64 (b : Int)) ∧ W.cell? ⟨g, 5, none⟩ = some (.string (S t))
abbrev fcs (n : List UInt8) (k : Int) (f : Bool) (i : Int) (b : Nat) (t : List UInt8) : Array Value := #[.string (S n), .int .i64 k, .bool f, .int .i64 i, .int .u64 (b : Int), .string (S t)]
theorem flies {W : World} {g : Nat} {n : List UInt8} {k : Int} {f : Bool} {i : Int} {b : Nat} {t : List UInt8} (h : Has W g 58 (fcs n k f i b t)) : FLies g n k f i b t W :=
  ⟨h.cell 0, h.cell 1, h.cell 2, h.cell 3, h.cell 4, h.cell 5⟩
theorem papSize : (Try.prog.info? 27).map (·.size) = some 3 := by kernel_rfl
/-- A paper that lies in a block, handed back. -/
theorem ret_pap {fn : Func} {p : Tmp} {R : Ending → World → Prop} {a : Act} {w : World} (h : fn.results = #[.cell p 27]) (g : Nat) (cs : Array Value)
    (hp : a.tmps.getD p undef = .pointer (some ⟨g, 0, none⟩)) (hd : a.defers = []) (hh : Has w g 27 cs) (hcs : cs.size = 3) (hR : R (.returned (.agg cs)) w) : bodyPost Try.prog fn R .ret a w :=
  bodyPost_ret (v := .agg cs) (results_cell_row h _ _ g 27 cs (0, 0) _ hp hh Try.underlying27 rfl (by rw [hcs]; exact papSize)) hd hR

theorem FSl.only {w w' : World} {b g : Nat} {A : Option Addr} {L : List Fld} (h : FSl w b A L) (ho : Only w w' g) (hne : b ≠ g) : FSl w' b A L := fun hl => by
  obtain ⟨off, hA, hlt, hc⟩ := h hl
  exact ⟨off, hA, by have := ho.size; omega, fun i hi => (hc i hi).keep (ho.block b hlt (fun e => hne (by injection e)))⟩

namespace Pap
def fewF (f : Fld) : Fld := ⟨f.name.take 300, ⟨f.val.kind, f.val.flag, f.val.int, f.val.bits, f.val.text.take 300⟩⟩
/-- At most 30 fields, texts of up to 300 bytes. -/
def few (L : List Fld) : List Fld := (L.take 30).map fewF
theorem few_len (L : List Fld) : (few L).length ≤ 30 := by unfold few; rw [List.length_map, List.length_take]; omega
theorem few_name (L : List Fld) : ∀ x ∈ few L, x.name.length ≤ 300 := by
  intro x hx
  obtain ⟨y, _, rfl⟩ := List.mem_map.1 hx
  show (y.name.take 300).length ≤ 300
  rw [List.length_take]; omega
theorem few_ok (L : List Fld) (h : ∀ x ∈ L, x.ok) : ∀ x ∈ few L, x.ok := by
  intro x hx
  obtain ⟨y, hy, rfl⟩ := List.mem_map.1 hx
  exact h y (List.mem_of_mem_take hy)
end Pap

theorem own_ty {w : World} {B e s n n' cap' g : Nat} {v : Value} {xs : List Value} (h : w.ownsRow B e s v n xs) (hv : v = .slice (some ⟨g, 0, none⟩) n' cap') : ∃ cur, w.heap[g]? = some (.cells cur e (0, 0)) := by
  rcases h.2 with ⟨h1, -⟩ | ⟨g1, cap, cur, h1, -, hg, -⟩
  · rw [hv] at h1
    cases h1
  · rw [hv] at h1
    injection h1 with h1
    injection h1 with h1
    injection h1 with h1
    subst h1
    exact ⟨cur, hg⟩
theorem ty_only {w w' : World} {g b : Nat} {T : TypeId} (ho : Only w w' g) (hne : b ≠ g) (h : ∃ cur, w.heap[b]? = some (.cells cur T (0, 0))) : ∃ cur, w'.heap[b]? = some (.cells cur T (0, 0)) := by
  obtain ⟨cur, h⟩ := h
  exact ⟨cur, (ho.block b (Array.getElem?_eq_some_iff.1 h).1 (fun e => hne (by injection e))).trans h⟩
/-- What Few leaves. -/
def FewPost (w : World) (id : List UInt8) (cls : Int) (L : List Fld) (r : Ending) (w' : World) : Prop :=
  ∃ A b cap, r = .returned (.agg #[.string (S (id.take 300)), .int .i64 cls, .slice A (Pap.few L).length cap]) ∧ w.heap.size ≤ b ∧ FSl w' b A (Pap.few L) ∧ (Pap.few L ≠ [] → ∃ cur, w'.heap[b]? = some (.cells cur 58 (0, 0))) ∧ Below w.heap.size w w'

set_option maxHeartbeats 4000000 in
set_option maxRecDepth 100000 in
theorem few_any (id : List UInt8) (cls : Int) (L : List Fld) (b cap : Nat) (A : Option Addr) (w : World) (hF : FSl w b A L) (hL : L.length ≤ 4611686018427387904) (hid : id.length ≤ 4611686018427387904)
    (hN : ∀ x ∈ L, x.name.length ≤ 4611686018427387904 ∧ x.val.text.length ≤ 4611686018427387904) :
    Calls Try.prog 9 #[.agg #[.string (S id), .int .i64 cls, .slice A L.length cap]] w (FewPost w id cls L) := by
  have HF := Lib.hid hF; clear hF
  have HN := Lib.hid hN; clear hN
  obtain ⟨i0, hi, hz0, hz1, hz2⟩ := info_parts fldInfo
  have HI := Lib.hid (And.intro hi (And.intro hz0 (And.intro hz1 hz2))); clear hi hz0 hz1 hz2
  go_enter Try.func9, Try.ntmps9
  go_upto_region 2 with (fail)
  have hP := ((Has.made w 27 #[.string (S id), .int .i64 cls, .slice A L.length cap]).of_alloc (.cells #[.string ⟨#[]⟩, .int .i64 0, .slice none 0 0] 27)).of_alloc (.cells #[.string (S id), .int .i64 cls, .slice none 0 0] 27)
  have hR := (has_new w (.cells #[.string (S id), .int .i64 cls, .slice A L.length cap] 27) 27 #[.string ⟨#[]⟩, .int .i64 0, .slice none 0 0]).of_alloc (.cells #[.string (S id), .int .i64 cls, .slice none 0 0] 27)
  have hO := Has.made ((w.alloc (.cells #[.string (S id), .int .i64 cls, .slice A L.length cap] 27)).alloc (.cells #[.string ⟨#[]⟩, .int .i64 0, .slice none 0 0] 27)) 27 #[.string (S id), .int .i64 cls, .slice none 0 0]
  have hb0 := up3 (w := w) (.cells #[.string (S id), .int .i64 cls, .slice A L.length cap] 27) (.cells #[.string ⟨#[]⟩, .int .i64 0, .slice none 0 0] 27) (.cells #[.string (S id), .int .i64 cls, .slice none 0 0] 27)
  have hs0 : (((w.alloc (.cells #[.string (S id), .int .i64 cls, .slice A L.length cap] 27)).alloc (.cells #[.string ⟨#[]⟩, .int .i64 0, .slice none 0 0] 27)).alloc (.cells #[.string (S id), .int .i64 cls, .slice none 0 0] 27)).heap.size = w.heap.size + 3 := by simp
  rw [show ((w.alloc (.cells #[.string (S id), .int .i64 cls, .slice A L.length cap] 27)).alloc (.cells #[.string ⟨#[]⟩, .int .i64 0, .slice none 0 0] 27)).heap.size = w.heap.size + 1 + 1 by simp] at hO
  generalize (((w.alloc (.cells #[.string (S id), .int .i64 cls, .slice A L.length cap] 27)).alloc (.cells #[.string ⟨#[]⟩, .int .i64 0, .slice none 0 0] 27)).alloc (.cells #[.string (S id), .int .i64 cls, .slice none 0 0] 27)) = W0 at hP hR hO hb0 hs0 ⊢
  have HK : Hid (∀ W : World, Below (w.heap.size + 2) W0 W → Has W w.heap.size 27 #[.string (S id), .int .i64 cls, .slice A L.length cap] ∧ Has W (w.heap.size + 1) 27 #[.string ⟨#[]⟩, .int .i64 0, .slice none 0 0] ∧ FSl W b A L ∧ Below w.heap.size w W) := fun W hW =>
    have hb := hb0.trans (hW.mono (by omega))
    ⟨hP.below hW (by omega), hR.below hW (by omega), HF.out.below hb (Nat.le_refl _), hb⟩
  clear hP hR hb0
  have hs3 : w.heap.size + 3 ≤ W0.heap.size := by omega
  clear hs0
  have HLN := Lib.hid (And.intro hL hid)
  have hc0 := hO.cell 0
  have hf0 := hO.free 0
  have hX : Hid (Has (W0.setCell ⟨w.heap.size + 1 + 1, 0, none⟩ (.string (S (id.take 300)))) (w.heap.size + 1 + 1) 27 #[.string (S (id.take 300)), .int .i64 cls, .slice none 0 0] ∧ Below (w.heap.size + 2) W0 (W0.setCell ⟨w.heap.size + 1 + 1, 0, none⟩ (.string (S (id.take 300)))) ∧ w.heap.size + 3 ≤ (W0.setCell ⟨w.heap.size + 1 + 1, 0, none⟩ (.string (S (id.take 300)))).heap.size) :=
    have ho2 := Only.set W0 (w.heap.size + 1 + 1) 0 (.string (S (id.take 300)))
    ⟨by simpa using hO.set 0 (.string (S (id.take 300))), ho2.below (Below.refl (w.heap.size + 2) W0) (by omega) (by omega), Nat.le_trans hs3 ho2.size⟩
  by_cases h3 : (300 : Int) < (id.length : Int)
  case' pos =>
    clear hO
    go_upto_region 4 with (fail)
    generalize W0.setCell ⟨w.heap.size + 1 + 1, 0, none⟩ (.string (S (id.take 300))) = W1 at hX ⊢
    obtain ⟨hO1, hb1, hs1⟩ := hX.out
  case' neg =>
    have ht : id.take 300 = id := List.take_of_length_le (by omega)
    have HT := Lib.hid ht; clear ht hX
    go_upto_region 4 with (fail)
    have hO1 : Has W0 (w.heap.size + 1 + 1) 27 #[.string (S (id.take 300)), .int .i64 cls, .slice none 0 0] := by rw [HT.out]; exact hO
    have hs1 := hs3
    clear hO
    obtain ⟨W1, hW1⟩ : ∃ W1, W1 = W0 := ⟨_, rfl⟩
    rw [← hW1] at hO1 hs1 ⊢
    have hb1 : Below (w.heap.size + 2) W0 W1 := by rw [hW1]; exact Below.refl _ _
    clear hW1
  all_goals
    clear hc0 hf0 h3
    go_wp2_with fail
    go_loopg [4] L.length (fun g1 v4 wr => ∃ (k : Nat) (v : Value), k ≤ L.length ∧ k ≤ 30 ∧ v4 = .int .i64 (k : Int) ∧ L.length - k ≤ g1 ∧ wr.ownsRow (w.heap.size + 3) 58 6 v k (fl ((L.take k).map Pap.fewF)) ∧
        Has wr (w.heap.size + 1 + 1) 27 #[.string (S (id.take 300)), .int .i64 cls, v] ∧ Below (w.heap.size + 2) W0 wr ∧ w.heap.size + 3 ≤ wr.heap.size)
    case atStart => exact ⟨0, .slice none 0 0, Nat.zero_le _, by omega, rfl, by omega, World.ownsRow_nil _ _ _ _, hO1, hb1, hs1⟩
    case round =>
      obtain ⟨k, v, hk, hk30, rfl, hg, hown, hOk, hbk, hsk⟩ := hrel
      obtain ⟨hPk, hRk, hFk, hbw⟩ := HK.out _ hbk
      have c2 := hPk.cell 2
      by_cases hlt : k < L.length ∧ k < 30
      · have hki : (k : Int) < (L.length : Int) := by omega
        have hki3 : (k : Int) < 30 := by omega
        have hki0 : (0 : Int) ≤ (k : Int) := by omega
        obtain ⟨off, hA, hbl, hfat⟩ := hFk (by intro hc; rw [hc] at hlt; simp at hlt)
        subst hA
        obtain ⟨e0, e1, e2, e3, e4, e5⟩ := hfat k hlt.1
        have hNx := HN.out L[k] (List.getElem_mem hlt.1)
        have hstep : (L.take (k + 1)).map Pap.fewF = (L.take k).map Pap.fewF ++ [Pap.fewF L[k]] := by rw [List.take_succ_eq_append_getElem hlt.1, List.map_append]; rfl
        clear hfat
        generalize L[k] = x at e0 e1 e2 e3 e4 e5 hNx hstep
        obtain ⟨n, vk, vf, vi, vb, vt⟩ := x
        dsimp only at e0 e1 e2 e3 e4 e5 hNx
        have hfw : Pap.fewF ⟨n, ⟨vk, vf, vi, vb, vt⟩⟩ = ⟨n.take 300, ⟨vk, vf, vi, vb, vt.take 300⟩⟩ := rfl
        rw [hfw] at hstep
        clear hfw hPk hRk hFk hbw
        have hd1 : (300 : Int) < (n.length : Int) ∨ (¬ (300 : Int) < (n.length : Int) ∧ n.take 300 = n) := by
          by_cases h : (300 : Int) < (n.length : Int)
          · exact Or.inl h
          · exact Or.inr ⟨h, List.take_of_length_le (by omega)⟩
        have hd2 : (300 : Int) < (vt.length : Int) ∨ (¬ (300 : Int) < (vt.length : Int) ∧ vt.take 300 = vt) := by
          by_cases h : (300 : Int) < (vt.length : Int)
          · exact Or.inl h
          · exact Or.inr ⟨h, List.take_of_length_le (by omega)⟩
        obtain ⟨n1, hn1⟩ : ∃ n1, n1 = n.take 300 := ⟨_, rfl⟩
        obtain ⟨t1, ht1⟩ : ∃ t1, t1 = vt.take 300 := ⟨_, rfl⟩
        rw [← hn1, ← ht1] at hstep
        have HST := Lib.hid hstep; clear hstep
        have HW8 : Hid (Has (wr.alloc (.cells (fcs n1 vk vf vi vb t1) 58)) wr.heap.size 58 (fcs n1 vk vf vi vb t1) ∧ (wr.alloc (.cells (fcs n1 vk vf vi vb t1) 58)).ownsRow (w.heap.size + 3) 58 6 v k (fl ((L.take k).map Pap.fewF)) ∧ Has (wr.alloc (.cells (fcs n1 vk vf vi vb t1) 58)) (w.heap.size + 1 + 1) 27 #[.string (S (id.take 300)), .int .i64 cls, v] ∧ Below (w.heap.size + 2) W0 (wr.alloc (.cells (fcs n1 vk vf vi vb t1) 58)) ∧ w.heap.size + 3 ≤ (wr.alloc (.cells (fcs n1 vk vf vi vb t1) 58)).heap.size) :=
          ⟨Has.made wr _ _, hown.alloc _, hOk.of_alloc _, hbk.trans ((up1 (w := wr) (.cells (fcs n1 vk vf vi vb t1) 58)).mono (by omega)), by simp; omega⟩
        clear hown hOk hbk
        rcases hd1 with h1 | ⟨h1, q1⟩ <;> rcases hd2 with h2 | ⟨h2, q2⟩
        all_goals
          try rw [q1] at hn1
          try rw [q2] at ht1
          try clear q1
          try clear q2
          have HNT := Lib.hid (And.intro hn1 ht1); clear hn1 ht1
          go_upto_region 12 with (fail)
          clear c2 e0 e1 e2 e3 e4 e5 h1 h2
          rw [← HNT.out.1, ← HNT.out.2]
          obtain ⟨hf8, ho8, hO8, hb8, hs8⟩ := HW8.out
          generalize wr.alloc (.cells (fcs n1 vk vf vi vb t1) 58) = W8 at hf8 ho8 hO8 hb8 hs8 ⊢
          have c2 := hO8.cell 2
          obtain ⟨e0, e1, e2, e3, e4, e5⟩ := flies hf8
          have hM9 : ∀ (j : Nat) (u : Value), (Fld.cs ⟨n1, ⟨vk, vf, vi, vb, t1⟩⟩)[j]? = some u → (W8.alloc (.cells (fcs n1 vk vf vi vb t1) 58)).cell? ((⟨W8.heap.size, 0, none⟩ : Addr).add j) = some u := fun j u hu => by
            have e : (⟨W8.heap.size, 0, none⟩ : Addr).add j = ⟨W8.heap.size, j, none⟩ := by rw [Addr.add_mid, Nat.zero_add]
            rw [e, (Has.made W8 _ _).cell]
            simpa [Fld.cs] using hu
          have HB := Lib.hid (And.intro (hO8.of_alloc (.cells (fcs n1 vk vf vi vb t1) 58)) (And.intro (ho8.alloc (.cells (fcs n1 vk vf vi vb t1) 58)) (And.intro (hb8.trans ((up1 (w := W8) (.cells (fcs n1 vk vf vi vb t1) 58)).mono (by omega))) (And.intro (show w.heap.size + 3 ≤ (W8.alloc (.cells (fcs n1 vk vf vi vb t1) 58)).heap.size by simp; omega) hM9))))
          clear hf8 ho8 hO8 hb8 hM9
          go_wp2_with (at_builtin; refine wpList_append_own _ rfl (.tmp 55) (.tmp 57) 25 rfl (w.heap.size + 3) 58 i0 (.agg #[.string ⟨#[]⟩, .int .i64 0, .bool false, .int .i64 0, .int .u64 0, .string ⟨#[]⟩]) 6 64 Try.underlying25 HI.out.1 HI.out.2.1 HI.out.2.2.1 HI.out.2.2.2 rfl (by decide) v k (fl ((L.take k).map Pap.fewF)) rfl HB.out.2.1 ⟨W8.heap.size, 0, none⟩ 1 1 (Fld.cs ⟨n1, ⟨vk, vf, vi, vb, t1⟩⟩) rfl rfl HB.out.2.2.2.2 (Fld.cs_one _) (by simp only [maxLen]; omega) (by omega) HB.out.2.2.2.1 ?_; intro v9 w9 hown9 hg9 hnil9; rw [← fl_snoc, ← HST.out] at hown9; have hgb : ∀ q, v.ownBlock = some q → w.heap.size + 3 ≤ q := fun q hq => (HB.out.2.1.lt q hq).1; have hO9 : Has w9 (w.heap.size + 1 + 1) 27 #[.string (S (id.take 300)), .int .i64 cls, v] := (hg9.block _ HB.out.1.lt (fun e => by have := hgb _ e.symm; omega)).trans HB.out.1; have hD9 : Below (w.heap.size + 2) W0 w9 := HB.out.2.2.1.grown hg9 (by have := HB.out.2.2.2.1; omega) (fun q hq => by have := hgb q hq; omega); have hs9 : w.heap.size + 3 ≤ w9.heap.size := Nat.le_trans HB.out.2.2.2.1 hg9.size; obtain ⟨g9, cp9, rfl⟩ : ∃ g9 cp9, v9 = .slice (some ⟨g9, 0, none⟩) (k + 1) cp9 := hown9.2.elim (fun h => absurd h.2 (by omega)) (fun ⟨g9, cp9, cur, h9, _⟩ => ⟨g9, cp9, h9⟩); have d2 := hO9.cell 2; have f2 := hO9.free 2)
          have hO10 : Has (w9.setCell ⟨w.heap.size + 1 + 1, 2, none⟩ (.slice (some ⟨g9, 0, none⟩) (k + 1) cp9)) (w.heap.size + 1 + 1) 27 #[.string (S (id.take 300)), .int .i64 cls, (.slice (some ⟨g9, 0, none⟩) (k + 1) cp9)] := by simpa using hO9.set 2 (.slice (some ⟨g9, 0, none⟩) (k + 1) cp9)
          have ho10 := Only.set w9 (w.heap.size + 1 + 1) 2 (.slice (some ⟨g9, 0, none⟩) (k + 1) cp9)
          have hD10 := ho10.below hD9 (by omega) (by omega)
          have hA10 := own_keep hown9 (fun q hq => ho10.block q (hown9.lt q hq).2 (fun e => by injection e with e; have := (hown9.lt q hq).1; omega))
          have hs10 := Nat.le_trans hs9 ho10.size
          go_roundg (L.length - (k + 1))
          case measure => omega
          case rel => exact ⟨k + 1, (.slice (some ⟨g9, 0, none⟩) (k + 1) cp9), by omega, by omega, by go_num, Nat.le_refl _, hA10, hO10, hD10, hs10⟩
      · have hkl : L.take k = L.take 30 := by
          rcases Nat.lt_or_ge k L.length with h | h
          · have : k = 30 := by omega
            rw [this]
          · rw [List.take_of_length_le (by omega), List.take_of_length_le (by omega)]
        have hlen : (Pap.few L).length = k := by unfold Pap.few; rw [List.length_map, List.length_take]; omega
        rw [hkl, show (L.take 30).map Pap.fewF = Pap.few L from rfl] at hown
        clear hkl
        have hfs : ∃ A' b' cp', v = .slice A' (Pap.few L).length cp' ∧ w.heap.size ≤ b' ∧ b' ≠ w.heap.size + 1 ∧ FSl wr b' A' (Pap.few L) ∧ (Pap.few L ≠ [] → ∃ cur, wr.heap[b']? = some (.cells cur 58 (0, 0))) := by
          have hty := fun g n' cap' hv => own_ty (g := g) (n' := n') (cap' := cap') hown hv
          rcases own_fields hown hlen.symm with ⟨rfl, h0⟩ | ⟨g, cp, rfl, hgB, hgl, hH⟩
          · rw [h0]
            exact ⟨none, w.heap.size, 0, rfl, Nat.le_refl _, by omega, fun h => absurd rfl h, fun h => absurd rfl h⟩
          · exact ⟨_, g, cp, rfl, by omega, by omega, holds_fsl hH hgl, fun _ => hty g _ _ rfl⟩
        obtain ⟨A', b', cp', rfl, hbb, hbn, hfs, htt⟩ := hfs
        have hR0 := hRk.cell 0; have hR1 := hRk.cell 1; have hR2 := hRk.cell 2; have f0 := hRk.free 0; have f1 := hRk.free 1; have f2 := hRk.free 2
        have o0 := hOk.cell 0; have o1 := hOk.cell 1; have o2 := hOk.cell 2
        have hfin : Has (((wr.setCell ⟨w.heap.size + 1, 0, none⟩ (.string (S (id.take 300)))).setCell ⟨w.heap.size + 1, 1, none⟩ (.int .i64 cls)).setCell ⟨w.heap.size + 1, 2, none⟩ (.slice A' (Pap.few L).length cp')) (w.heap.size + 1) 27 #[.string (S (id.take 300)), .int .i64 cls, .slice A' (Pap.few L).length cp'] := by
          have := ((hRk.set 0 (.string (S (id.take 300)))).set 1 (.int .i64 cls)).set 2 (.slice A' (Pap.few L).length cp')
          simpa using this
        have hoo := ((Only.set wr (w.heap.size + 1) 0 (.string (S (id.take 300)))).trans (Only.set _ (w.heap.size + 1) 1 (.int .i64 cls))).trans (Only.set _ (w.heap.size + 1) 2 (.slice A' (Pap.few L).length cp'))
        have hob := hoo.below hbw (by omega) (by omega)
        have hff := And.intro (hfs.only hoo hbn) (fun hq => ty_only hoo hbn (htt hq))
        have HFIN := Lib.hid (And.intro hfin (And.intro hob hff)); clear hfin hob hff hoo hbw hRk hOk hown hfs hbk hlen
        have hstop : (k : Int) < (L.length : Int) → ¬ (k : Int) < 30 := by intro h; omega
        by_cases hkL : (k : Int) < (L.length : Int)
        · have hk3 := hstop hkL
          clear hstop
          go_wp2_with fail
          exact ret_pap (p := 2) rfl (w.heap.size + 1) _ rfl rfl HFIN.out.1 rfl ⟨A', b', cp', rfl, hbb, HFIN.out.2.2.1, HFIN.out.2.2.2, HFIN.out.2.1⟩
        · clear hstop
          go_wp2_with fail
          exact ret_pap (p := 2) rfl (w.heap.size + 1) _ rfl rfl HFIN.out.1 rfl ⟨A', b', cp', rfl, hbb, HFIN.out.2.2.1, HFIN.out.2.2.2, HFIN.out.2.1⟩
end Go.Proofs.Ytfcmkbeilpclmaa
