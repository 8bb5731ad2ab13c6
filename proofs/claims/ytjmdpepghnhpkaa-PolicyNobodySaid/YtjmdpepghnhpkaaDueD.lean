/-
  The fifteenth layer's statements' own without.
-/
import Derived.Test.YtjmdpepghnhpkaaDueC
namespace Go.Proofs.Ytjmdpepghnhpkaa
open Go.RowKit
set_option linter.unusedVariables false

set_option maxRecDepth 100000 in
set_option maxHeartbeats 4000000 in
theorem dwithout_any {w : World} {L : List Du} {A : Option Addr} {cap : Nat} (hr : RowD w [] A L) (hl : L.length ≤ cap) (hc : cap ≤ 9223372036854775807) (hn : L.length ≤ 1000000) (i : Nat) (hi : i < L.length) :
    Calls Try.prog 23 #[.slice A L.length cap, .int .i64 (i : Int)] w fun r w' => ∃ v, r = .returned v ∧ w'.ownsRow w.heap.size 34 2 v (i + (L.length - (i + 1))) (dvs (L.take i ++ L.drop (i + 1))) ∧ Below w.heap.size w w' := by
  obtain ⟨b, off, rfl, hbw, -, -, -⟩ := RowD.get hr i hi
  have HR := Lib.hid hr
  obtain ⟨i0, hi0, hz0, hz1, hz2⟩ := info_parts duInfo
  have HI := Lib.hid (And.intro hi0 (And.intro hz0 (And.intro hz1 hz2)))
  clear hi0 hz0 hz1 hz2 hr
  have hi1 : (0 : Int) ≤ (i : Int) := by omega
  have hi2 : (i : Int) ≤ (L.length : Int) := by omega
  have hi3 : (i : Int) ≤ (cap : Int) := by omega
  have hinc : IntKind.i64.wrap ((i : Int) + 1) = (i : Int) + 1 := by rw [IntKind.wrap_i64]; omega
  go_enter Try.func23, Try.ntmps23
  have hb1 : Below w.heap.size w (w.alloc (.cells #[] 34)) := (Below.refl _ w).alloc (Nat.le_refl _) _
  have own1 : (w.alloc (.cells #[] 34)).ownsRow w.heap.size 34 2 (.slice (some ⟨w.heap.size, 0, none⟩) 0 0) 0 [] := World.ownsRow_made w #[] 0 (Nat.le_refl _) (by decide) rfl
  have HN1 : Hid (∀ (j : Nat) (u : Value), (dvs (L.take i))[j]? = some u → (w.alloc (.cells #[] 34)).cell? ((⟨b, off, none⟩ : Addr).add j) = some u) := Lib.hid (fun j u hu => by
    have hr1 := (RowD.take' HR.out i).below hb1
    obtain ⟨b', off', e, -, -, hc⟩ := hr1 (fun e => by rw [e] at hu; cases hu)
    injection e with e
    injection e with e1 e2
    rw [add_flat', e1, e2]
    exact hc j u hu)
  have HL1 : Hid ((dvs (L.take i)).length = i * 2) := Lib.hid (by rw [dvs_len, List.length_take, Nat.min_eq_left (by omega)])
  have HO1 := Lib.hid own1
  have HS1 : Hid (w.heap.size ≤ (w.alloc (.cells #[] 34)).heap.size) := Lib.hid hb1.size
  have HB1 := Lib.hid hb1
  clear own1 hb1
  go_upto_region 2 with (at_builtin; refine wpList_append_own _ rfl (.tmp 6) (.tmp 9) 30 rfl w.heap.size 34 i0 (.agg #[.int .i64 0, .int .i64 0]) 2 16 Try.underlying30 HI.out.1 HI.out.2.1 HI.out.2.2.1 HI.out.2.2.2 rfl (by decide) (.slice (some ⟨w.heap.size, 0, none⟩) 0 0) 0 [] rfl HO1.out ⟨b, off, none⟩ i cap (dvs (L.take i)) rfl HL1.out HN1.out (dvs_one _) (by simp only [maxLen]; omega) (by omega) HS1.out ?_; intro v5 w2 hown2 hg2 hnil2)
  have hlt2 : ∀ q, (Value.slice (some ⟨w.heap.size, 0, none⟩) 0 0).ownBlock = some q → w.heap.size ≤ q := fun q hq => (HO1.out.lt q hq).1
  have hbk2 := duGrown HB1.out hg2 HS1.out hlt2
  rw [List.nil_append] at hown2
  clear hg2 hnil2 hlt2 HN1 HL1 HO1 HS1 HB1
  have hi4 : (i : Int) + 1 ≤ (L.length : Int) := by omega
  have hi5 : (i : Int) + 1 ≤ (cap : Int) := by omega
  have hi6 : (0 : Int) ≤ (i : Int) + 1 := by omega
  have HO2 := Lib.hid hown2
  have HS2 : Hid (w.heap.size ≤ w2.heap.size) := Lib.hid hbk2.size
  have HL2 : Hid ((dvs (L.drop (i + 1))).length = (L.length - (i + 1)) * 2) := Lib.hid (by rw [dvs_len, List.length_drop])
  clear hown2
  by_cases hcap : cap = i + 1
  · have HN2 : Hid (∀ (j : Nat) (u : Value), (dvs (L.drop (i + 1)))[j]? = some u → w2.cell? ((⟨b, off, none⟩ : Addr).add j) = some u) := Lib.hid (fun j u hu => by
      rw [List.drop_eq_nil_of_le (by omega)] at hu
      cases hu)
    have HE : Hid (L.length - (i + 1) = 0 ∧ L.drop (i + 1) = []) := Lib.hid ⟨by omega, List.drop_eq_nil_of_le (by omega)⟩
    subst hcap
    go_wp2_with (at_builtin; refine wpList_append_own _ rfl (.tmp 11) (.tmp 15) 30 rfl w.heap.size 34 i0 (.agg #[.int .i64 0, .int .i64 0]) 2 16 Try.underlying30 HI.out.1 HI.out.2.1 HI.out.2.2.1 HI.out.2.2.2 rfl (by decide) v5 (0 + i) (dvs (L.take i)) rfl HO2.out ⟨b, off, none⟩ 0 0 (dvs []) rfl rfl (fun j u hu => by cases hu) (dvs_one _) (by simp only [maxLen]; omega) (by omega) HS2.out ?_; intro v6 w3 hown3 hg3 hnil3)
    have hbk3 := duGrown hbk2 hg3 HS2.out (fun q hq => (HO2.out.lt q hq).1)
    rw [dvs_app, Nat.zero_add] at hown3
    have HREL : Hid (w3.ownsRow w.heap.size 34 2 v6 (i + (L.length - (i + 1))) (dvs (L.take i ++ L.drop (i + 1))) ∧ Below w.heap.size w w3) := Lib.hid ⟨by rw [HE.out.1, HE.out.2]; exact hown3, hbk3⟩
    clear hown3 hg3 hnil3 hbk3 hbk2
    go_wp2_with fail
    go_ret
    exact ⟨_, rfl, by first | exact HREL.out.1 | (have h := HREL.out.1; rw [HE.out.1, Nat.add_zero] at h; exact h), HREL.out.2⟩
  · have HN2 : Hid (∀ (j : Nat) (u : Value), (dvs (L.drop (i + 1)))[j]? = some u → w2.cell? ((⟨b, off + (i + 1) * 2, none⟩ : Addr).add j) = some u) := Lib.hid (fun j u hu => by
      have hr2 := (RowD.aft HR.out cap (i + 1) hl).below hbk2
      obtain ⟨b', off', e, -, -, hc⟩ := hr2 (fun e => by rw [e] at hu; cases hu)
      unfold aft at e
      rw [if_neg hcap, Option.map_some, add_flat'] at e
      injection e with e
      injection e with e1 e2
      rw [add_flat', e1, e2]
      exact hc j u hu)
    go_wp2_with (at_builtin; refine wpList_append_own _ rfl (.tmp 11) (.tmp 15) 30 rfl w.heap.size 34 i0 (.agg #[.int .i64 0, .int .i64 0]) 2 16 Try.underlying30 HI.out.1 HI.out.2.1 HI.out.2.2.1 HI.out.2.2.2 rfl (by decide) v5 (0 + i) (dvs (L.take i)) rfl HO2.out ⟨b, off + (i + 1) * 2, none⟩ (L.length - (i + 1)) (cap - (i + 1)) (dvs (L.drop (i + 1))) rfl HL2.out HN2.out (dvs_one _) (by simp only [maxLen]; omega) (by omega) HS2.out ?_; intro v6 w3 hown3 hg3 hnil3)
    have hbk3 := duGrown hbk2 hg3 HS2.out (fun q hq => (HO2.out.lt q hq).1)
    rw [dvs_app, Nat.zero_add] at hown3
    have HREL := Lib.hid (And.intro hown3 hbk3)
    clear hown3 hg3 hnil3 hbk3 hbk2
    go_wp2_with fail
    go_ret
    exact ⟨_, rfl, HREL.out.1, HREL.out.2⟩
end Go.Proofs.Ytjmdpepghnhpkaa
