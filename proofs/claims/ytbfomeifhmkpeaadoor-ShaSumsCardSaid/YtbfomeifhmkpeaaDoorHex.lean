/-
  The contract of sha's Hex.
-/
import Derived.Test.YtbfomeifhmkpeaaDoorShaNum
import Derived.Deep.AppendLies
import Derived.Deep.RegionLaw
import Derived.Deep.Cut
import Derived.Deep.DeepCutAuto
import Derived.Outline
import Derived.Laws.BitsAllLaws
namespace Go.Proofs.YtbfomeifhmkpeaaDoor
open Go.RowKit
set_option linter.unusedVariables false

def signs : List UInt8 := [48, 49, 50, 51, 52, 53, 54, 55, 56, 57, 97, 98, 99, 100, 101, 102]
def hexd (n : Nat) : UInt8 := signs.getD n 0
def hexb (c : UInt8) : List UInt8 := [hexd (c.toNat / 16), hexd (c.toNat % 16)]
def hexs : List UInt8 → List UInt8
  | [] => []
  | c :: l => hexb c ++ hexs l
theorem hexs_append : ∀ a b : List UInt8, hexs (a ++ b) = hexs a ++ hexs b
  | [], b => rfl
  | c :: a, b => by simp [hexs, hexs_append a b]
theorem hexs_len : ∀ a : List UInt8, (hexs a).length = 2 * a.length
  | [] => rfl
  | c :: a => by simp [hexs, hexb, hexs_len a]; omega
theorem hexs_snoc (l : List UInt8) (k : Nat) (h : k < l.length) : hexs (l.take (k + 1)) = hexs (l.take k) ++ hexb (l[k]'h) := by
  rw [List.take_succ_eq_append_getElem h, hexs_append]; simp [hexs]
theorem own_heap {w w' : World} {B e s n : Nat} {v : Value} {xs : List Value} (h : w.ownsRow B e s v n xs) (hw : w'.heap = w.heap) : w'.ownsRow B e s v n xs := by
  refine ⟨h.1, ?_⟩
  rcases h.2 with h0 | ⟨g, cap, cur, hv, hg, hr, hh⟩
  · exact Or.inl h0
  · exact Or.inr ⟨g, cap, cur, hv, hg, by rw [hw]; exact hr, hh⟩
theorem sign_at {P : Program} {t : TypeId} (ht : P.underlying t = some .string) (n : Nat) (h : n < 16) (w : World) :
    (Instr.index t (.string ⟨#[48, 49, 50, 51, 52, 53, 54, 55, 56, 57, 97, 98, 99, 100, 101, 102]⟩) (.int .u8 (n : Int))).run P w = .ok (.int .u8 ((hexd n).toNat : Int)) w := by
  have h1 := run_index_S (P := P) w signs .u8 n ht (by simpa [signs] using h)
  have h2 : signs[n]'(by simpa [signs] using h) = hexd n := by
    unfold hexd
    rw [List.getD_eq_getElem?_getD, List.getElem?_eq_getElem (by simpa [signs] using h)]
    rfl
  rw [h2] at h1
  exact h1

set_option maxHeartbeats 2000000 in
theorem hex_any (l : List UInt8) (w : World) (hl : l.length ≤ 1000000) :
    Calls Tryd.prog 14 #[.string (S l)] w (TextPost w (hexs l)) := by
  obtain ⟨i0, hi, hz0, hz1, hz2⟩ := info_parts u8info
  have hmk : ∀ W : World, (Instr.makeSlice 33 (.int .i64 0) (.int .i64 (2 * (l.length : Int)))).run Tryd.prog W = .ok (.slice (some ⟨W.heap.size, 0, none⟩) 0 (2 * l.length)) (W.alloc (.cells (bcells (List.replicate (2 * l.length) 0)).toArray 5)) := by
    intro W
    have h := run_make (P := Tryd.prog) W 33 5 i0 (.int .u8 0) Tryd.underlying33 hi hz0 .i64 .i64 0 (2 * (l.length : Int)) (by omega) (by omega) (by rw [hz2]; omega) (by omega)
    have t2 : (2 * (l.length : Int)).toNat = 2 * l.length := by omega
    rw [hz1, Nat.mul_one, t2, made_zeros] at h
    exact h
  have hown0 : (w.alloc (.cells (bcells (List.replicate (2 * l.length) 0)).toArray 5)).ownsRow w.heap.size 5 1 (.slice (some ⟨w.heap.size, 0, none⟩) 0 (2 * l.length)) 0 (bcells (hexs (l.take 0))) :=
    ⟨by simp [bcells, hexs], Or.inr ⟨w.heap.size, 2 * l.length, _, rfl, Nat.le_refl _, Has.made _ _ _, Nat.zero_le _, by unfold maxLen; omega, by simp [bcells], by simp [bcells, hexs]⟩⟩
  have HI := Lib.hid (And.intro hi (And.intro hz0 (And.intro hz1 hz2))); clear hi hz0 hz1 hz2
  have hl0 : (0 : Int) ≤ 2 * (l.length : Int) := by omega
  have hl1 : 2 * (l.length : Int) ≤ 2000000 := by omega
  obtain ⟨out, hout⟩ : ∃ o, hexs l = o := ⟨_, rfl⟩
  have hol := hexs_len l
  rw [hout] at hol ⊢
  have HOUT := Lib.hid (And.intro hout hol); clear hout hol
  have HOWN0 := Lib.hid hown0; clear hown0
  go_enter Tryd.func14, Tryd.ntmps14
  go_wp2_with fail
  clear hmk
  go_loopw [3, 11] (fun v3 v11 wr => ∃ k : Nat, k ≤ l.length ∧ v11 = .int .i64 k ∧ wr.ownsRow w.heap.size 5 1 v3 (2 * k) (bcells (hexs (l.take k))) ∧ Below w.heap.size w wr) (fun _ v11 _ => l.length - (intOf v11).toNat)
  case atStart => exact ⟨0, Nat.zero_le _, rfl, HOWN0.out, (Below.refl _ _).alloc (Nat.le_refl _) _⟩
  case round =>
    obtain ⟨k, hk, rfl, hown, hbk⟩ := hrel
    by_cases hlt : k < l.length
    · have hk0 : (0 : Int) ≤ (k : Int) := by omega
      have hki : (k : Int) < (l.length : Int) := by omega
      have hidx := run_index_S (P := Tryd.prog) (t := 9) wr.drew l .i64 k Tryd.underlying9 hlt
      have hnx := hexs_snoc l k hlt
      generalize (l[k]'hlt) = c at hidx hnx
      obtain ⟨h, hh⟩ : ∃ h, c.toNat / 16 = h := ⟨_, rfl⟩
      obtain ⟨lo, hlo⟩ : ∃ h, c.toNat % 16 = h := ⟨_, rfl⟩
      have hc := c.toNat_lt
      have h16 : h < 16 := by omega
      have l16 : lo < 16 := by omega
      have eh : (c.toNat : Int) / 16 = (h : Int) := by omega
      have el : bits .and .u8 (c.toNat : Int) 15 = (lo : Int) := by
        have := u8_and_nat c.toNat 15 hc (by decide)
        rw [nat_mask4, hlo] at this
        exact this
      have sh := sign_at (P := Tryd.prog) Tryd.underlying9 h h16 wr.drew
      have sl := sign_at (P := Tryd.prog) Tryd.underlying9 lo l16 wr.drew
      unfold hexb at hnx
      rw [hh, hlo] at hnx
      generalize hexd h = dh at sh hnx
      generalize hexd lo = dl at sl hnx
      have HNX := Lib.hid hnx; clear hnx hh hlo
      have HO := Lib.hid hown; clear hown
      have hbsz := hbk.size
      go_upto_region 5 with (fail)
      have hox : ∀ W' : World, W'.heap = (wr.alloc (.cells #[.int .u8 (dh.toNat : Int), .int .u8 (dl.toNat : Int)] 5)).heap → W'.ownsRow w.heap.size 5 1 u3 (2 * k) (bcells (hexs (l.take k))) := fun W' hW' => own_heap (HO.out.alloc _) hW'
      have hnw : ∀ W' : World, W'.heap = (wr.alloc (.cells #[.int .u8 (dh.toNat : Int), .int .u8 (dl.toNat : Int)] 5)).heap → ∀ j u, [Value.int .u8 (dh.toNat : Int), .int .u8 (dl.toNat : Int)][j]? = some u → W'.cell? ((⟨wr.heap.size, 0, none⟩ : Addr).add j) = some u := fun W' hW' => World.news_of_block (w := W') (B := wr.heap.size) (cs := #[.int .u8 (dh.toNat : Int), .int .u8 (dl.toNat : Int)]) (t := 5) (fr := (0, 0)) (by rw [hW']; exact heap_alloc_new _ _)
      have HOX := Lib.hid hox; clear hox
      have HNW := Lib.hid hnw; clear hnw
      go_region_law (refine step_append_lies _ rfl (.tmp 14) (.tmp 25) 33 rfl w.heap.size 5 i0 (.int .u8 0) 1 1 Tryd.underlying33 HI.out.1 HI.out.2.1 HI.out.2.2.1 HI.out.2.2.2 rfl (by decide) u3 (2 * k) (bcells (hexs (l.take k))) (by simp [Act.eval, Act.put]) (HOX.out _ rfl) ⟨wr.heap.size, 0, none⟩ 2 2 [.int .u8 (dh.toNat : Int), .int .u8 (dl.toNat : Int)] (by simp [Act.eval, Act.put]) rfl (HNW.out _ rfl) (by simp [Value.oneCell']) (by decide) (by simp only [maxLen]; omega) (by omega) (by simp; omega) _ rfl ?_; intro g3 cap3 w3 hown3 hg3 hat3 hlt3)
      all_goals
        have hown4 : w3.ownsRow w.heap.size 5 1 (.slice (some ⟨g3, 0, none⟩) (2 * k + 2) cap3) (2 * (k + 1)) (bcells (hexs (l.take (k + 1)))) := by
          have : bcells (hexs (l.take (k + 1))) = bcells (hexs (l.take k)) ++ [.int .u8 (dh.toNat : Int), .int .u8 (dl.toNat : Int)] := by rw [HNX.out]; simp [bcells]
          rw [this]
          exact hown3
        have hb4 : Below w.heap.size w w3 := (hbk.drew.grown (grown_alloc' hg3) hbsz (fun k hk => (HO.out.lt k hk).1))
        clear hown3 hg3 hat3 hlt3
        go_wp2_with fail
        go_roundw
        case rel => exact ⟨k + 1, by omega, by go_num, hown4, hb4⟩
        case measure => simp [intOf]; omega
    · have hke : k = l.length := by omega
      have hki : ¬ (k : Int) < (l.length : Int) := by omega
      rw [hke, List.take_length, HOUT.out.1] at hown
      have hll : 2 * l.length = out.length := HOUT.out.2.symm
      rw [hll] at hown
      clear hll hke hlt hk
      obtain ⟨b, A, cap, rfl, hby⟩ := own_bytes hown
      have hcv := conv_bytes_text (P := Tryd.prog) Tryd.underlying33 Tryd.underlying5 Tryd.underlying9 hby cap
      clear hown
      go_wp2_with fail
      go_ret
      exact ⟨rfl, hbk⟩
end Go.Proofs.YtbfomeifhmkpeaaDoor
