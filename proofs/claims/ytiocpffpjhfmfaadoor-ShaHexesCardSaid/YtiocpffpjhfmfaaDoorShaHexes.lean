/-
  The contract of ShaHexes.
-/
import Derived.Test.YtiocpffpjhfmfaaDoorShaTabs
import Derived.WalkSpells
namespace Go.Proofs.YtiocpffpjhfmfaaDoor
open Go.ChangeShapes Go.WideShapes Go.ChangeAt Go.RowKit
open Go.ChangeMaps (open_string shut_string)
set_option linter.unusedVariables false

theorem sign_cut (n : Nat) (h : n < 16) : (⟨#[48, 49, 50, 51, 52, 53, 54, 55, 56, 57, 97, 98, 99, 100, 101, 102]⟩ : ByteArray).extract n (n + 1) = S [hexd n] := by
  have h1 := S_extract signs n (n + 1)
  have h2 : (signs.take (n + 1)).drop n = [hexd n] := by
    rw [List.take_succ_eq_append_getElem (by simpa [signs] using h), List.drop_append_of_le_length (by simp [signs]; omega), List.drop_eq_nil_of_le (by rw [List.length_take]; exact Nat.min_le_left _ _)]
    unfold hexd
    rw [List.getD_eq_getElem?_getD, List.getElem?_eq_getElem (by simpa [signs] using h)]
    rfl
  rw [h2] at h1
  exact h1

set_option maxRecDepth 100000 in
set_option maxHeartbeats 4000000 in
theorem shaHexes_any (s : List UInt8) (w : World) (hT : Tabs w) :
    Calls Tryd.prog 5 #[.string (S s)] w fun e w' => e = .returned (.bool true) ∧ Below w.heap.size w w' := by
  have key : ∃ l : List UInt8, l.length ≤ 300 ∧ ((300 < s.length ∧ l = s.take 300) ∨ (s.length ≤ 300 ∧ l = s)) := by
    by_cases h : 300 < s.length
    · exact ⟨s.take 300, by rw [List.length_take]; omega, Or.inl ⟨h, rfl⟩⟩
    · exact ⟨s, by omega, Or.inr ⟨by omega, rfl⟩⟩
  obtain ⟨l, hl, hcase⟩ := key
  have h2 := hT.2.2
  have HT := Lib.hid hT; clear hT
  have hH := fun W => hex_any l W (by omega)
  have hh0 : hexs (l.take 0) = [] := rfl
  have hhl := hexs_len l
  obtain ⟨out, hout⟩ : ∃ o, hexs l = o := ⟨_, rfl⟩
  rw [hout] at hH hhl
  have HH := Lib.hid hH; clear hH
  have HOUT := Lib.hid (And.intro hout hhl); clear hout hhl
  have hcase2 : (((300 : Int) < (s.length : Int) ∧ Hid (s.take 300 = l)) ∨ (¬ (300 : Int) < (s.length : Int) ∧ Hid (s = l))) := by
    rcases hcase with ⟨hbig, hls⟩ | ⟨hsm, hls⟩
    · exact Or.inl ⟨by omega, Lib.hid hls.symm⟩
    · exact Or.inr ⟨by omega, Lib.hid hls.symm⟩
  clear hcase
  rcases hcase2 with ⟨hb, hls⟩ | ⟨hb, hls⟩
  all_goals
    go_enter Tryd.func5, Tryd.ntmps5
    go_wp2_with fail
    rw [hls.out]
    go_loopw [4, 5] (fun v4 v5 wr => ∃ k : Nat, k ≤ l.length ∧ v5 = .int .i64 k ∧ v4 = .string (S (hexs (l.take k))) ∧ Below w.heap.size w wr) (fun _ v5 _ => l.length - (intOf v5).toNat)
    case atStart => exact ⟨0, Nat.zero_le _, rfl, rfl, Below.refl _ _⟩
    case round =>
      obtain ⟨k, hk, rfl, rfl, hbk⟩ := hrel
      by_cases hlt : k < l.length
      · have hk0 : (0 : Int) ≤ (k : Int) := by omega
        have hki : (k : Int) < (l.length : Int) := by omega
        have hidx := fun W => run_index_S (P := Tryd.prog) (t := 9) W l .i64 k Tryd.underlying9 hlt
        have hnx := hexs_snoc l k hlt
        have hlen := hexs_len (l.take k)
        rw [List.length_take] at hlen
        generalize hexs (l.take k) = acc at hnx hlen ⊢
        generalize (l[k]'hlt) = c at hidx hnx
        obtain ⟨h, hh⟩ : ∃ h, c.toNat / 16 = h := ⟨_, rfl⟩
        obtain ⟨lo, hlo⟩ : ∃ h, c.toNat % 16 = h := ⟨_, rfl⟩
        have hc := c.toNat_lt
        have h16 : h < 16 := by omega
        have l16 : lo < 16 := by omega
        have eh : (c.toNat : Int) / 16 = (h : Int) := by omega
        have el : (c.toNat : Int) % 16 = (lo : Int) := by omega
        have elt : (c.toNat : Int).tmod 16 = (lo : Int) := by rw [Int.tmod_eq_emod_of_nonneg (by omega)]; exact el
        have sh := sign_cut h h16
        have sl := sign_cut lo l16
        have h0' : (0 : Int) ≤ (h : Int) := by omega
        have l0' : (0 : Int) ≤ (lo : Int) := by omega
        have h16' : (h : Int) < 16 := by omega
        have l16' : (lo : Int) < 16 := by omega
        have c0 : (0 : Int) ≤ (c.toNat : Int) := by omega
        have c255 : (c.toNat : Int) ≤ 255 := by omega
        unfold hexb at hnx
        rw [hh, hlo] at hnx
        generalize hexd h = dh at sh hnx
        generalize hexd lo = dl at sl hnx
        have hal : acc.length ≤ 700 := by omega
        have HNX := Lib.hid hnx; clear hnx hh hlo hlen hc
        have hlim1 : ¬ 9223372036854775807 < acc.length + 1 := by omega
        have hlim2 : ¬ 9223372036854775807 < acc.length + 1 + 1 := by omega
        clear hal
        go_wp2_with fail
        go_region
        go_wp2_with fail
        go_region
        go_wp2_with fail
        go_roundw
        case rel => exact ⟨k + 1, by omega, by go_num, by rw [HNX.out], hbk.drew.drew⟩
        case measure => simp [intOf]; omega
      · have hke : k = l.length := by omega
        have hki : ¬ (k : Int) < (l.length : Int) := by omega
        rw [hke, List.take_length, HOUT.out.1]
        clear hke hlt hk
        go_wp2_with fail
        refine (HH.out _).mono ?_
        rintro r2 w2 ⟨rfl, hb2⟩
        have hb02 := hbk.trans (hb2.mono hbk.size)
        go_wp2_with fail
        refine (awake_any _ (HT.out.below hb02 h2)).mono ?_
        rintro r3 w3 ⟨rfl, hb3⟩
        go_wp2_with fail
        go_ret
        exact ⟨rfl, hb02.trans (hb3.mono hb02.size)⟩

theorem shaHexes_contract {H : Type} (enc : TypeId × Value → H) (W : World) (base : Nat) (args : Array Value) (ds gs : List (DataW H)) (before : List MemPlace)
    (hval : ∀ (j : Nat) t v, Tryd.f5.params[j]? = some t → args[j]? = some v → Value.okWide Tryd.prog W .any base t v)
    (hW : DataW.Whole enc Tryd.prog Tryd.f5.params.toList Rows.shaHexesSpec.vars false W args.toList ds gs before)
    {Z : Prop} (hz : Z) (hT : Tabs W) :
    Calls Tryd.prog 5 args W fun e W' =>
      ((Rows.shaHexesSpec.fn H (ds ++ gs)).results = [.lit (.bool true)] ∧ (Rows.shaHexesSpec.fn H (ds ++ gs)).args = ds ∧ (Rows.shaHexesSpec.fn H (ds ++ gs)).vars = []) ∧ e = .returned (.bool true) ∧ Below W.heap.size W W' := by
  obtain ⟨p, q, hA0, hV, rfl, hfz, hnd⟩ := hW
  have hA : DataW.TrodAll enc Tryd.prog W 0 (fun _ => true) true Tryd.f5.params.toList args.toList ds p := hA0
  rw [Tryd.params5] at hA hval
  obtain ⟨v0, d0, rfl, rfl, h0⟩ := trodAll_one hA
  obtain ⟨rfl, rfl⟩ := trodVars_none hV
  obtain ⟨s, rfl, rfl, rfl, max_s⟩ := open_string Tryd.underlying9 (hval 0 9 v0 rfl rfl) h0
  rw [← S_of s]
  exact (shaHexes_any s.data.toList W hT).mono fun e W' h => ⟨⟨rfl, rfl, rfl⟩, h⟩
end Go.Proofs.YtiocpffpjhfmfaaDoor
