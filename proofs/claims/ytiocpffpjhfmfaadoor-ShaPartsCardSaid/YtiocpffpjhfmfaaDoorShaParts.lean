/-
  The contract of ShaParts.
-/
import Derived.Test.YtiocpffpjhfmfaaDoorShaTabs
import Derived.Deep.Slices
import Derived.SliceStrings
import Derived.SizedLaws
namespace Go.Proofs.YtiocpffpjhfmfaaDoor
open Go.ChangeShapes Go.WideShapes Go.ChangeAt Go.RowKit
open Go.ChangeMaps (open_string shut_string)
set_option linter.unusedVariables false

/-- A row of texts, in one old block. -/
def TRow (w : World) (b off : Nat) (l : List (List UInt8)) : Prop := ∀ i (h : i < l.length), w.cell? ⟨b, off + i, none⟩ = some (.string (S (l[i]'h)))
theorem addr_plain {w : World} {a : Addr} {v : Value} (h : w.cell? a = some v) : a = ⟨a.block, a.off, none⟩ := by
  obtain ⟨b, o, s⟩ := a
  cases s with
  | none => rfl
  | some x => exfalso; unfold World.cell? at h; split at h <;> simp at h
theorem add_plain (b off i : Nat) : (⟨b, off, none⟩ : Addr).add i = ⟨b, off + i, none⟩ := by
  unfold Addr.add; split <;> simp_all
theorem weights_in {H : Type} {P : Program} {e : TypeId} {d : DataW H} {n : Nat} (hn : n ∈ d.weights P e) : ∀ {l : List (DataW H)}, d ∈ l → n ∈ DataW.weightsAll P e l
  | x :: r, h => by
    rw [DataW.weightsAll, List.mem_append]
    rcases List.mem_cons.1 h with rfl | h
    · exact Or.inl hn
    · exact Or.inr (weights_in hn h)

section
variable {H : Type} {enc : TypeId × Value → H} {W : World}
/-- A slice of texts that came in. -/
theorem texts_in {fuel : Nat} {A : Option Addr} {len cap : Nat} {x : DataW H × List MemPlace} (h : DataW.trod enc Tryd.prog W 0 (fun _ => true) true fuel 25 [.slice A len cap] = some x) :
    len = 0 ∨ ∃ (b off : Nat) (l : List (List UInt8)) (sp : List (DataW H)), A = some ⟨b, off, none⟩ ∧ l.length = len ∧ b < W.heap.size ∧ TRow W b off l ∧ x.1 = .slice (l.map fun s => .lit (.string s)) sp := by
  rcases open_strings Tryd.underlying25 Tryd.underlying9 (by kernel_rfl) h with ⟨hcs, rfl⟩ | ⟨a, len', cap', ss, hcs, _, hlc, _, hz, rfl, hcell, _⟩
  · left; injection hcs with hcs _; injection hcs
  · injection hcs with hcs _; injection hcs with h1 h2 h3
    subst h1; subst h2; subst h3
    rcases Nat.eq_zero_or_pos len with h0 | hpos
    · exact Or.inl h0
    · right
      have hlen : ss.length = cap := by rw [hz]; simp
      have hc0 := hcell 0 (by omega)
      have ha : a = ⟨a.block, a.off, none⟩ := addr_plain (by simpa [Addr.add] using hc0)
      have hblt : a.block < W.heap.size := World.block_lt_of_cell? W a (by simpa [Addr.add] using hc0)
      generalize a.block = b at ha hblt
      generalize a.off = off at ha
      subst ha
      refine ⟨b, off, (ss.take len).map (·.data.toList), strs (ss.drop len), rfl, by simp [hlen, hlc], hblt, fun i hi => ?_, ?_⟩
      · have hi' : i < ss.length := by simp at hi; omega
        have := hcell i hi'
        rw [add_plain] at this
        rw [this]
        simp [List.getD, hi', S_of]
      · show DataW.slice (strs (ss.take len)) (strs (ss.drop len)) = _
        congr 1
        simp [strs, List.map_map, Function.comp_def]
end

/-- The first k texts together. -/
def upTo (l : List (List UInt8)) (k : Nat) : List UInt8 := (l.take k).flatten
theorem upTo_succ (l : List (List UInt8)) (k : Nat) (h : k < l.length) : upTo l (k + 1) = upTo l k ++ (l[k]'h) := by
  unfold upTo
  rw [List.take_succ_eq_append_getElem h, List.flatten_append]; simp
theorem upTo_len (l : List (List UInt8)) (hl : ∀ s ∈ l, s.length ≤ 140737488351232) : ∀ k, k ≤ l.length → (upTo l k).length ≤ k * 140737488351232
  | 0, _ => by simp [upTo]
  | k + 1, h => by
    have h1 := upTo_len l hl k (by omega)
    have h2 := hl (l[k]'(by omega)) (List.getElem_mem _)
    rw [upTo_succ l k (by omega), List.length_append]; omega

set_option maxRecDepth 100000 in
set_option maxHeartbeats 8000000 in
theorem shaParts_rounds (l : List (List UInt8)) (b off cap : Nat) (w : World) (hT : Tabs w) (hrow : TRow w b off l) (hb : b < w.heap.size) (hl : ∀ s ∈ l, s.length ≤ 140737488351232) (hlen : l.length ≤ 140737488351232) :
    Calls Tryd.prog 4 #[.slice (some ⟨b, off, none⟩) l.length cap] w fun r w' => r = .returned (.bool true) ∧ Below w.heap.size w w' := by
  have h2 := hT.2.2
  have HT := Lib.hid hT
  have HROW := Lib.hid hrow; clear hrow
  have HUL := Lib.hid (upTo_len l hl)
  have HL := Lib.hid hl; clear hl
  go_enter Tryd.func4, Tryd.ntmps4
  go_wp2_with fail
  refine (new_any w hT).mono ?_
  rintro r1 w1 ⟨rfl, hst1, hb1, hs1⟩
  clear hs1 hT
  go_wp2_with fail
  go_loopw [4, 5] (fun v4 v5 wr => ∃ k : Nat, k ≤ l.length ∧ k ≤ 20 ∧ v5 = .int .i64 k ∧ v4 = .string (S (upTo l k)) ∧ StAt wr 36 w.heap.size (upTo l k) (upTo l k).length ∧ Below w.heap.size w wr) (fun _ v5 _ => 20 - (intOf v5).toNat)
  case atStart => exact ⟨0, Nat.zero_le _, Nat.zero_le _, rfl, rfl, hst1, hb1⟩
  case round =>
    obtain ⟨k, hk, hk20, rfl, rfl, hst, hbk⟩ := hrel
    have hul := HUL.out k hk
    by_cases hlt : k < l.length
    · by_cases h20 : k < 20
      · have hcw := HROW.out k hlt
        have hs := HL.out (l[k]'hlt) (List.getElem_mem hlt)
        have hnx := upTo_succ l k hlt
        have hk0 : (0 : Int) ≤ (k : Int) := by omega
        have hki : (k : Int) < (l.length : Int) := by omega
        have hk1 : k + 1 ≤ 20 := by omega
        generalize (l[k]'hlt) = s at hcw hs hnx
        have hcell := (hbk.cell (p := ⟨b, off + k, none⟩) hb).trans hcw
        have HCW := Lib.hid hcw; clear hcw
        generalize upTo l k = a at hul hnx hst ⊢
        have hlim : ¬ 9223372036854775807 < a.length + s.length := by omega
        have hW := write_st (a ++ s) a.length w.heap.size wr (hst.more s) (by rw [List.length_append]; omega) (by rw [List.length_append]; omega) (HT.out.below hbk h2) h2
        rw [List.drop_left] at hW
        have hlen2 : (a ++ s).length ≤ 5000000000000000 := by rw [List.length_append]; omega
        obtain ⟨m, hm⟩ : ∃ m, a ++ s = m := ⟨_, rfl⟩
        rw [hm] at hW hlen2 hnx
        have hml : (a.length : Int) + (s.length : Int) = (m.length : Int) := by rw [← hm, List.length_append]; omega
        have HW := Lib.hid hW; clear hW
        have HNX := Lib.hid hnx; clear hnx
        have HML := Lib.hid hml; clear hml
        clear hst
        have hblt : b < wr.heap.size := Nat.lt_of_lt_of_le hb hbk.size
        go_wp2_with fail
        refine (HW.out).mono ?_
        rintro r2 w2 ⟨rfl, hst2, ho2⟩
        have hb2 : Below w.heap.size w w2 := ho2.below hbk hbk.size (Nat.le_refl _)
        have hcell := (hb2.cell (p := ⟨b, off + k, none⟩) hb).trans HCW.out
        have hS := sum_st m w.heap.size w2 hst2 hlen2 (HT.out.below hb2 h2) h2
        have hS2 := fun W hTW => sum_any m W hlen2 hTW
        generalize Sha.sum m = out at hS hS2
        have HS := Lib.hid hS; clear hS
        have HS2 := Lib.hid hS2; clear hS2
        have hglt := hst2.lt
        go_wp2_with fail
        refine (HS.out).mono ?_
        rintro r3 w3 ⟨rfl, hb3⟩
        have hst3 := hst2.below hb3 hglt
        have hb03 := hb2.trans (hb3.mono hb2.size)
        have hglt3 := hst3.lt
        clear hst2
        go_wp2_with fail
        refine (HS2.out _ (HT.out.below hb03 h2)).mono ?_
        rintro r4 w4 ⟨rfl, hb4⟩
        have hst4 := hst3.below hb4 hglt3
        have hb04 := hb03.trans (hb4.mono hb03.size)
        have hLn := len_st w.heap.size m m.length w4 hst4
        have HST4 := Lib.hid hst4; clear hst3 hst4
        have HLN := Lib.hid hLn; clear hLn
        go_wp2_with fail
        refine (HLN.out).mono ?_
        rintro r5 w5 ⟨rfl, rfl⟩
        go_wp2_with fail
        go_roundw
        case rel => exact ⟨k + 1, by omega, hk1, by go_num, by rw [HNX.out], by rw [HNX.out]; exact HST4.out, hb04⟩
        case measure => simp [intOf]; omega
      · have hke : k = 20 := by omega
        have hki : ¬ (k : Int) < 20 := by omega
        have hkl : (k : Int) < (l.length : Int) := by omega
        clear hke
        have hsl := Sha.sum_len (upTo l k)
        have hS := sum_st (upTo l k) w.heap.size wr hst (by omega) (HT.out.below hbk h2) h2
        generalize Sha.sum (upTo l k) = out at hS hsl
        have hout : (out.length : Int) = 32 := by omega
        have HS := Lib.hid hS; clear hS hsl
        go_wp2_with fail
        refine (HS.out).mono ?_
        rintro r3 w3 ⟨rfl, hb3⟩
        have hb03 := hbk.trans (hb3.mono hbk.size)
        go_wp2_with fail
        refine (awake_any _ (HT.out.below hb03 h2)).mono ?_
        rintro r4 w4 ⟨rfl, hb4⟩
        go_wp2_with fail
        go_ret
        exact ⟨rfl, hb03.trans (hb4.mono hb03.size)⟩
    · have hki : ¬ (k : Int) < (l.length : Int) := by omega
      have hsl := Sha.sum_len (upTo l k)
      have hS := sum_st (upTo l k) w.heap.size wr hst (by omega) (HT.out.below hbk h2) h2
      generalize Sha.sum (upTo l k) = out at hS hsl
      have hout : (out.length : Int) = 32 := by omega
      have HS := Lib.hid hS; clear hS hsl
      go_wp2_with fail
      refine (HS.out).mono ?_
      rintro r3 w3 ⟨rfl, hb3⟩
      have hb03 := hbk.trans (hb3.mono hbk.size)
      go_wp2_with fail
      refine (awake_any _ (HT.out.below hb03 h2)).mono ?_
      rintro r4 w4 ⟨rfl, hb4⟩
      go_wp2_with fail
      go_ret
      exact ⟨rfl, hb03.trans (hb4.mono hb03.size)⟩

set_option maxRecDepth 100000 in
set_option maxHeartbeats 2000000 in
theorem shaParts_empty (A : Option Addr) (cap : Nat) (w : World) (hT : Tabs w) :
    Calls Tryd.prog 4 #[.slice A 0 cap] w fun r w' => r = .returned (.bool true) ∧ Below w.heap.size w w' := by
  have h2 := hT.2.2
  have HT := Lib.hid hT
  go_enter Tryd.func4, Tryd.ntmps4
  go_wp2_with fail
  refine (new_any w hT).mono ?_
  rintro r1 w1 ⟨rfl, hst1, hbk, hs1⟩
  clear hs1 hT
  have hsl := Sha.sum_len []
  have hS := sum_st [] w.heap.size w1 hst1 (by decide) (HT.out.below hbk h2) h2
  generalize Sha.sum [] = out at hS hsl
  have hout : (out.length : Int) = 32 := by omega
  have HS := Lib.hid hS; clear hS hsl hst1
  go_wp2_with fail
  refine wp_loop_rounds 1 ?_
  rw [rounds_succ]
  go_wp2_with fail
  refine (HS.out).mono ?_
  rintro r3 w3 ⟨rfl, hb3⟩
  have hb03 := hbk.trans (hb3.mono hbk.size)
  go_wp2_with fail
  refine (awake_any _ (HT.out.below hb03 h2)).mono ?_
  rintro r4 w4 ⟨rfl, hb4⟩
  go_wp2_with fail
  go_ret
  exact ⟨rfl, hb03.trans (hb4.mono hb03.size)⟩

theorem shaParts_contract {H : Type} (enc : TypeId × Value → H) (W : World) (base : Nat) (args : Array Value) (ds gs : List (DataW H)) (before : List MemPlace)
    (hval : ∀ (j : Nat) t v, Tryd.f4.params[j]? = some t → args[j]? = some v → Value.okWide Tryd.prog W .any base t v)
    (hW : DataW.Whole enc Tryd.prog Tryd.f4.params.toList Rows.shaPartsSpec.vars false W args.toList ds gs before)
    (hsz : (DataW.weightsEach Tryd.prog (Tryd.f4.params.toList ++ Rows.shaPartsSpec.plain.varTypes Tryd.prog) (ds ++ gs)).all (· ≤ reachBytes) = true) (hT : Tabs W) :
    Calls Tryd.prog 4 args W fun e W' =>
      ((Rows.shaPartsSpec.fn H (ds ++ gs)).results = [.lit (.bool true)] ∧ (Rows.shaPartsSpec.fn H (ds ++ gs)).args = ds ∧ (Rows.shaPartsSpec.fn H (ds ++ gs)).vars = []) ∧ e = .returned (.bool true) ∧ Below W.heap.size W W' := by
  obtain ⟨p, q, hA0, hV, rfl, hfz, hnd⟩ := hW
  have hA : DataW.TrodAll enc Tryd.prog W 0 (fun _ => true) true Tryd.f4.params.toList args.toList ds p := hA0
  rw [Tryd.params4] at hA hval hsz
  obtain ⟨v0, d0, rfl, rfl, h0⟩ := trodAll_one hA
  obtain ⟨rfl, rfl⟩ := trodVars_none hV
  obtain ⟨A, len, cap, rfl⟩ := okWide_slice Tryd.underlying25 (hval 0 25 v0 rfl rfl)
  obtain ⟨fuel, hf⟩ := h0
  rcases texts_in hf with rfl | ⟨b, off, l, sp, rfl, rfl, hb, hrow, hd⟩
  · exact (shaParts_empty A cap W hT).mono fun e W' h => ⟨⟨rfl, rfl, rfl⟩, h⟩
  · have hd' : d0 = .slice (l.map fun s => .lit (.string s)) sp := hd
    subst hd'
    have hrb : reachBytes = 140737488351232 := by decide
    have hlen : l.length ≤ 140737488351232 := by
      have h := sized_slice hsz (j := 0) (t := 25) rfl rfl Tryd.underlying25
      have hby : Tryd.prog.bytesOf 9 = 16 := by kernel_rfl
      rw [hby, hrb] at h
      simp at h
      omega
    have hl : ∀ s ∈ l, s.length ≤ 140737488351232 := by
      intro s hs
      have hmem : (s.length) ∈ (DataW.slice (l.map fun s => (DataW.lit (H := H) (.string s))) sp).weights Tryd.prog 25 := by
        rw [DataW.weights, Tryd.underlying25]
        exact List.mem_cons_of_mem _ (List.mem_append_left _ (weights_in (d := .lit (.string s)) (by simp [DataW.weights]) (List.mem_map.2 ⟨s, hs, rfl⟩)))
      have h := List.all_eq_true.1 hsz _ (DataW.weights_mem_each (j := 0) rfl rfl _ hmem)
      rw [← hrb]
      exact of_decide_eq_true h
    exact (shaParts_rounds l b off cap W hT hrow hb hl hlen).mono fun e W' h => ⟨⟨rfl, rfl, rfl⟩, h⟩
end Go.Proofs.YtiocpffpjhfmfaaDoor
