/-
  The contract of one step of both readers, more: kind 4.
-/
import Derived.Test.YtpclknempmhmiaaStep
import Derived.Deep.Cut
import Derived.Deep.DeepCutAuto
import Derived.Deep.QuietTactic
import Derived.Deep.RegionHeld3
import Derived.BigQuiet
namespace Go.Proofs.Ytpclknempmhmiaa
open Go.RowKit

theorem own_open {w : World} {B e n : Nat} {v : Value} {xs : List Value} (h : w.ownsRow B e 1 v n xs) :
    ∃ A cap, v = .slice A n cap ∧ (0 < n → ∃ g, A = some ⟨g, 0, none⟩ ∧ ∀ j, j < n → w.cell? ⟨g, j, none⟩ = xs[j]?) := by
  rcases h.2 with ⟨rfl, rfl⟩ | ⟨g, cap, cur, rfl, hr⟩
  · exact ⟨none, 0, rfl, fun h => absurd h (by omega)⟩
  · exact ⟨_, cap, rfl, fun _ => ⟨g, rfl, fun j hj => h.cellAt j (by omega)⟩⟩

theorem R.textsK_len : ∀ (k : Nat) (m : Int) (st : R.St) (acc : List (List UInt8)), (R.textsK k m st acc).1.length ≤ acc.length + st.1.length := by
  intro k
  induction k with
  | zero => intro m st acc; show acc.length ≤ _; omega
  | succ k ih =>
    intro m st acc
    unfold R.textsK
    split
    · rename_i h
      have h1 := ih m (R.text m st).2 (acc ++ [(R.text m st).1])
      have h2 := R.text_less m st h
      rw [List.length_append] at h1
      simp only [List.length_cons, List.length_nil] at h1
      omega
    · simp
theorem R.texts_len (many m : Int) (st : R.St) : (R.texts many m st).1.length ≤ st.1.length := by
  have h1 := R.textsK_len (R.num many st).1.toNat m (R.num many st).2 []
  have h2 := R.num_rest many st
  unfold R.texts
  simp only [List.length_nil] at h1
  omega

theorem own_weaken {w : World} {B B' e s n : Nat} {v : Value} {xs : List Value} (h : w.ownsRow B e s v n xs) (hB : B' ≤ B) : w.ownsRow B' e s v n xs := by
  refine ⟨h.1, ?_⟩
  rcases h.2 with h0 | ⟨g, cap, cur, hv, hg, hr⟩
  · exact Or.inl h0
  · exact Or.inr ⟨g, cap, cur, hv, Nat.le_trans hB hg, hr⟩

/-- Both lists read as the same texts. -/
def Both (w : World) (ga gb : Nat) (xs : List (List UInt8)) : Prop := ∀ j (h : j < xs.length), w.cell? ⟨ga, j, none⟩ = some (.string (S xs[j])) ∧ w.cell? ⟨gb, j, none⟩ = some (.string (S xs[j]))

set_option maxRecDepth 100000 in
set_option maxHeartbeats 4000000 in
theorem step_texts (N M : Int) (g b p : Nat) (st : R.St) (w : World) (hr : Rd w g b st) (hp : Pl w p st) (hgp : g ≠ p) (hbp : b ≠ p) (hblt : b < w.heap.size) (hcap : st.1.length ≤ 4000000000) :
    Calls Try.prog 24 #[.pointer (some ⟨g, 0, none⟩), .pointer (some ⟨p, 0, none⟩), .agg #[.int .i64 4, .int .i64 N, .int .i64 M]] w (StepPost w g b p (R.texts N M st).2) := by
  have hcN := fun W' (h : Rd W' g b st) (hb : b < W'.heap.size) => texts_rd N M g b st W' h hcap hb
  have hcP := fun W' (h : Pl W' p st) => texts_pl N M p st W' h hcap
  unfold TextsPost at hcN
  unfold PTextsPost at hcP
  have hxl := R.texts_len N M st
  generalize R.texts N M st = x at hcN hcP hxl ⊢
  obtain ⟨xs, stf⟩ := x
  simp only at hcN hcP hxl
  have HCN := Lib.hid hcN; clear hcN
  have HCP := Lib.hid hcP; clear hcP
  have hr1 := hr.alloc (.cells #[.int .i64 4, .int .i64 N, .int .i64 M] 52)
  have hp1 := hp.alloc (.cells #[.int .i64 4, .int .i64 N, .int .i64 M] 52)
  have h2 : Two w (w.alloc (.cells #[.int .i64 4, .int .i64 N, .int .i64 M] 52)) g p := (Two.refl _ _ _).alloc _
  have HB := Has.made w 52 #[.int .i64 4, .int .i64 N, .int .i64 M]
  have hg0 : w.heap.size ≠ g := by have := hr.lt; omega
  have hp0 : w.heap.size ≠ p := by have := Has.lt hp; omega
  have hgl := hr.lt
  have hpl := Has.lt hp
  go_enter Try.func24, Try.ntmps24
  go_upto_region 17 with (fail)
  go_cut [8, 9] (fun v8 v9 w2 => w2.ownsRow w.heap.size 9 1 v8 xs.length (strs xs) ∧ w2.ownsRow w.heap.size 9 1 v9 xs.length (strs xs) ∧ Rd w2 g b stf ∧ Pl w2 p stf ∧ Two w w2 g p)
  case first =>
    have hs0 : w.heap.size ≤ (w.alloc (.cells #[.int .i64 4, .int .i64 N, .int .i64 M] 52)).heap.size := h2.size
    generalize w.alloc (.cells #[.int .i64 4, .int .i64 N, .int .i64 M] 52) = W at hr1 hp1 h2 HB hs0 ⊢
    have hx1 : W.cell? ⟨w.heap.size, 1, none⟩ = some (.int .i64 N) := HB.cell 1
    have hx2 : W.cell? ⟨w.heap.size, 2, none⟩ = some (.int .i64 M) := HB.cell 2
    replace hr1 := hr1.drew
    replace hp1 := hp1.drew
    replace h2 := h2.drew
    replace HB : Has W.drew w.heap.size 52 #[.int .i64 4, .int .i64 N, .int .i64 M] := HB
    replace hs0 : w.heap.size ≤ W.drew.heap.size := hs0
    go_region_held3 (fun w' => w'.cell? ⟨w.heap.size, 1, none⟩ = some (.int .i64 N) ∧ w'.cell? ⟨w.heap.size, 2, none⟩ = some (.int .i64 M)) (first | exact ⟨hx1, hx2⟩ | go_keep) (first
      | (go_at_call 21; refine (HCN.out _ hr1 (by omega)).mono ?_; rintro e w1 ⟨va, rfl, hownA, hrN, ho⟩; (try replace hownB := own_below hownB ho (by omega)); have hp1 := hp1.only ho hgp.symm; have hr1 := hrN; have h2 := h2.left ho; have HB := ho.has HB hg0; have hx1 : w1.cell? ⟨w.heap.size, 1, none⟩ = some (.int .i64 N) := HB.cell 1; have hx2 : w1.cell? ⟨w.heap.size, 2, none⟩ = some (.int .i64 M) := HB.cell 2; have hs1' := hs0; have hs0 := Nat.le_trans hs0 ho.size; clear ho hrN)
      | (go_at_call 37; refine (HCP.out _ hp1).mono ?_; rintro e w1 ⟨vb, rfl, hownB, hpN, ho⟩; (try replace hownA := own_below hownA ho (by omega)); have hr1 := hr1.only ho hgp hbp; have hp1 := hpN; have h2 := h2.right ho; have HB := ho.has HB hp0; have hx1 : w1.cell? ⟨w.heap.size, 1, none⟩ = some (.int .i64 N) := HB.cell 1; have hx2 : w1.cell? ⟨w.heap.size, 2, none⟩ = some (.int .i64 M) := HB.cell 2; have hs1 := hs0; have hs0 := Nat.le_trans hs0 ho.size; clear ho hpN))
    go_wp2_with fail
    go_meet
    case rel => exact ⟨own_weaken hownA hs1', own_weaken hownB hs1, hr1, hp1, h2⟩
  case rest =>
    obtain ⟨hownA, hownB, hrf, hpf, h2f⟩ := hcut
    obtain ⟨A, ca, rfl, hA⟩ := own_open hownA
    obtain ⟨A', cb, rfl, hB⟩ := own_open hownB
    clear hownA hownB hr1 hp1 h2 HB
    by_cases hn : xs.length = 0
    · rw [hn]
      go_wp2_with fail
      refine wp_loop_rounds 1 ?_
      rw [rounds_succ]
      go_wp2_with fail
      go_ret
      exact ⟨rfl, hrf, hpf, h2f⟩
    · obtain ⟨ga, rfl, hca⟩ := hA (by omega)
      obtain ⟨gb, rfl, hcb⟩ := hB (by omega)
      have hboth : Both wc ga gb xs := fun j hj => by
        refine ⟨?_, ?_⟩
        · rw [hca j hj]; simp [strs, List.getElem?_eq_getElem hj]
        · rw [hcb j hj]; simp [strs, List.getElem?_eq_getElem hj]
      clear hca hcb hA hB
      go_wp2_with fail
      go_loopw [10] (fun v10 wr => ∃ k : Nat, k ≤ xs.length ∧ v10 = .int .i64 k ∧ Both wr ga gb xs ∧ Rd wr g b stf ∧ Pl wr p stf ∧ Two w wr g p) (fun v10 _ => xs.length - (intOf v10).toNat)
      case atStart => exact ⟨0, Nat.zero_le _, rfl, hboth, hrf, hpf, h2f⟩
      case round =>
        obtain ⟨k, hk, rfl, hbo, hrk, hpk, h2k⟩ := hrel
        by_cases hlt : k < xs.length
        · have hk1 := (hbo k hlt).1
          have hk2 := (hbo k hlt).2
          have hk0 : (0 : Int) ≤ (k : Int) := by omega
          have hki : (k : Int) < (xs.length : Int) := by omega
          go_wp2_with fail
          go_quiet (fail)
          go_wp2_with fail
          go_roundw
          case rel => exact ⟨k + 1, by omega, by go_num, hbo, hrk, hpk, ⟨h2k.os, h2k.tape, h2k.output, h2k.size, h2k.block⟩⟩
          case measure => simp [intOf]; omega
        · have hke : k = xs.length := by omega
          subst hke
          go_wp2_with fail
          go_ret
          exact ⟨rfl, hrk, hpk, h2k⟩
end Go.Proofs.Ytpclknempmhmiaa
