/-
  The contract of the reference's primes.
-/
import Derived.Test.YtbfomeifhmkpeaaDoorRefTurn
import Derived.Test.YtbfomeifhmkpeaaDoorShaNum
import Derived.Deep.AppendLies
import Derived.Deep.RegionLaw
import Derived.Deep.Cut
import Derived.Deep.DeepCutAuto
import Derived.Outline
namespace Go.Proofs.YtbfomeifhmkpeaaDoor
open Go.RowKit
set_option linter.unusedVariables false
def apart (x : Nat) (l : List Nat) : Bool := l.all fun p => x % p != 0
/-- The primes among the first m numbers from 2. -/
def prl : Nat → List Nat
  | 0 => []
  | m + 1 => if apart (m + 2) (prl m) = true then prl m ++ [m + 2] else prl m
theorem prl_two : ∀ (m : Nat), ∀ p ∈ prl m, 2 ≤ p
  | 0, p, h => by simp [prl] at h
  | m + 1, p, h => by
    unfold prl at h
    split at h
    · rcases List.mem_append.1 h with h | h
      · exact prl_two m p h
      · have := List.mem_singleton.1 h; omega
    · exact prl_two m p h
theorem prl_more (m : Nat) : ∀ k, (prl m).length ≤ (prl (m + k)).length
  | 0 => Nat.le_refl _
  | k + 1 => by
    refine Nat.le_trans (prl_more m k) ?_
    show _ ≤ (if apart (m + k + 2) (prl (m + k)) = true then prl (m + k) ++ [m + k + 2] else prl (m + k)).length
    split
    · simp
    · exact Nat.le_refl _
theorem prl_last : (prl 310).length = 64 := by decide +kernel
theorem prl_before : (prl 309).length = 63 := by decide +kernel
theorem prl_short (m : Nat) (h : (prl m).length < 64) : m < 310 := by
  rcases Nat.lt_or_ge m 310 with h1 | h1
  · exact h1
  · have := prl_more 310 (m - 310)
    rw [show 310 + (m - 310) = m by omega, prl_last] at this
    omega
theorem prl_long (m : Nat) (h : ¬ (prl m).length < 64) : 310 ≤ m := by
  rcases Nat.lt_or_ge m 310 with h1 | h1
  · have := prl_more m (309 - m)
    rw [show m + (309 - m) = 309 by omega, prl_before] at this
    omega
  · exact h1
theorem prl_len (m : Nat) (h : m ≤ 310) : (prl m).length ≤ 64 := by
  have := prl_more m (310 - m)
  rw [show m + (310 - m) = 310 by omega, prl_last] at this
  exact this
def nats (l : List Nat) : List Value := l.map fun (x : Nat) => Value.int .i64 (x : Int)
theorem nats_len (l : List Nat) : (nats l).length = l.length := by simp [nats]
theorem iinfo : (Tryd.prog.info? 3).map (fun i => (i.zero, i.size, i.bytes)) = some (some (.int .i64 0), 1, 8) := by kernel_rfl
/-- An own row of numbers, read. -/
theorem own_at {w : World} {B e : Nat} {v : Value} {n : Nat} {xs : List Value} (h : w.ownsRow B e 1 v n xs) (i : Nat) (hi : i < n) :
    ∃ g cap, v = .slice (some ⟨g, 0, none⟩) n cap ∧ B ≤ g ∧ g < w.heap.size ∧ n ≤ cap ∧ ∀ x, xs[i]? = some x → w.cell? ⟨g, i, none⟩ = some x := by
  obtain ⟨g, cap, rfl, hg, hlt⟩ := h.form (by omega)
  rcases h.2 with ⟨_, h0⟩ | ⟨g', cap', cur, hv, hb, hr, hc, hm, hs, ht⟩
  · omega
  · cases hv
    refine ⟨g, cap, rfl, hg, hlt, hc, fun x hx => ?_⟩
    rw [← hx]
    exact h.cellAt i (by omega)
theorem own_slice {w : World} {B e : Nat} {v : Value} {n : Nat} {xs : List Value} (h : w.ownsRow B e 1 v n xs) : ∃ p cap, v = .slice p n cap := by
  rcases h.2 with ⟨rfl, rfl⟩ | ⟨g, cap, cur, rfl, _⟩
  · exact ⟨none, 0, rfl⟩
  · exact ⟨_, cap, rfl⟩
theorem nats_at (l : List Nat) (i : Nat) (h : i < l.length) : (nats l)[i]? = some (.int .i64 ((l[i]'h : Nat) : Int)) := by simp [nats, h]
theorem apart_snoc (x : Nat) (l : List Nat) (k : Nat) (h : k < l.length) : apart x (l.take (k + 1)) = (apart x (l.take k) && (x % (l[k]'h) != 0)) := by
  unfold apart; rw [List.take_succ_eq_append_getElem h, List.all_append]; simp
def NatsPost (w : World) (l : List Nat) (e : Ending) (w' : World) : Prop := ∃ v, e = .returned v ∧ w'.ownsRow w.heap.size 3 1 v l.length (nats l) ∧ Below w.heap.size w w'
set_option maxRecDepth 100000 in
set_option maxHeartbeats 2000000 in
theorem primes_any (w : World) : Calls Tryd.prog 10 #[.int .i64 64] w (NatsPost w (prl 310)) := by
  obtain ⟨i0, hi, hz0, hz1, hz2⟩ := info_parts iinfo
  have HI := Lib.hid (And.intro hi (And.intro hz0 (And.intro hz1 hz2))); clear hi hz0 hz1 hz2
  go_enter Tryd.func10, Tryd.ntmps10
  go_wp2_with fail
  go_loopw [3, 4] (fun v3 v4 wr => ∃ m : Nat, m ≤ 310 ∧ v4 = .int .i64 ((m + 2 : Nat) : Int) ∧ wr.ownsRow w.heap.size 3 1 v3 (prl m).length (nats (prl m)) ∧ Below w.heap.size w wr) (fun _ v4 _ => 320 - (intOf v4).toNat)
  case atStart => exact ⟨0, by decide, rfl, World.ownsRow_nil _ _ _ _, Below.refl _ _⟩
  case round =>
    obtain ⟨m, hm, rfl, hown, hb⟩ := hrel
    obtain ⟨l, hl⟩ : ∃ l, prl m = l := ⟨_, rfl⟩
    have htwo := prl_two m
    have hlen := prl_len m hm
    have hsh := prl_short m
    have hlo := prl_long m
    have hnx : prl (m + 1) = if apart (m + 2) (prl m) = true then prl m ++ [m + 2] else prl m := rfl
    rw [hl] at hown htwo hlen hsh hlo hnx
    obtain ⟨x, hx⟩ : ∃ x, m + 2 = x := ⟨_, rfl⟩
    rw [hx] at hnx
    rw [hx]
    have HX := Lib.hid (And.intro hl hx); clear hl hx
    have HNX := Lib.hid hnx; clear hnx
    by_cases hlt : l.length < 64
    · have hm1 := hsh hlt
      have hxk : (x : Int) < 1000 := by have := HX.out.2; omega
      have hx0 : (0 : Int) ≤ (x : Int) := by omega
      have hl1 : (l.length : Int) < 64 := by omega
      clear hsh hlo
      obtain ⟨pp, cap, rfl⟩ := own_slice hown
      go_wp2_with fail
      go_loopw [5, 6] (fun v5 v6 wi => ∃ i : Nat, i ≤ l.length ∧ v6 = .int .i64 (i : Int) ∧ v5 = .bool (apart x (l.take i)) ∧ wi = wr) (fun _ v6 _ => 100 - (intOf v6).toNat)
      case atStart => exact ⟨0, Nat.zero_le _, rfl, rfl, rfl⟩
      case round =>
        obtain ⟨i, hi, rfl, rfl, rfl⟩ := hrel
        by_cases hil : i < l.length
        · have i0' : (0 : Int) ≤ (i : Int) := by omega
          have i1 : (i : Int) < (l.length : Int) := by omega
          obtain ⟨g, cap', e, hg, hglt, hc, hat⟩ := own_at hown i hil
          cases e
          have hcell := hat _ (nats_at l i hil)
          clear hat
          have hap := apart_snoc x l i hil
          have hp2 := htwo _ (List.getElem_mem hil)
          generalize (l[i]'hil) = p at hcell hap hp2
          have q0 : (p : Int) ≠ 0 := by omega
          have q1 : (x : Int) % (p : Int) = ((x % p : Nat) : Int) := by simp
          have q2 : (x : Int).tmod (p : Int) = ((x % p : Nat) : Int) := by rw [Int.tmod_eq_emod_of_nonneg hx0, q1]
          generalize x % p = r at q1 q2 hap
          have hr : ((r : Int) != 0) = (r != 0) := by
            cases r with
            | zero => rfl
            | succ r => simp; omega
          have HAP := Lib.hid hap; clear hap
          generalize apart x (l.take i) = b at HAP
          cases b with
          | true =>
            go_wp2_with fail
            go_roundw
            case rel => exact ⟨i + 1, by omega, by go_num, by rw [HAP.out]; rfl, trivial⟩
            case measure => simp [intOf]; omega
          | false =>
            go_wp2_with fail
            go_roundw
            case rel => exact ⟨i + 1, by omega, by go_num, by rw [HAP.out]; rfl, trivial⟩
            case measure => simp [intOf]; omega
        · have hie : i = l.length := by omega
          subst hie
          rw [List.take_length]
          have HO := Lib.hid hown; clear hown
          have hbsz := hb.size
          generalize apart x l = b at HNX
          cases b with
          | true =>
            have hn : prl (m + 1) = l ++ [x] := HNX.out.trans (if_pos rfl)
            have HN := Lib.hid hn; clear hn HNX
            go_upto_region 11 with (fail)
            have hox := HO.out.alloc (.cells #[.int .i64 (x : Int)] 3)
            have hnw : ∀ j u, [Value.int .i64 (x : Int)][j]? = some u → (wr.alloc (.cells #[.int .i64 (x : Int)] 3)).cell? ((⟨wr.heap.size, 0, none⟩ : Addr).add j) = some u := World.news_of_block (cs := #[.int .i64 (x : Int)]) (t := 3) (fr := (0, 0)) (heap_alloc_new _ _)
            have HOX := Lib.hid hox; clear hox
            have HNW := Lib.hid hnw; clear hnw
            go_wp2_with (at_builtin; refine wpList_append_lies _ rfl (.tmp 34) (.tmp 36) 29 rfl w.heap.size 3 i0 (.int .i64 0) 1 8 Tryd.underlying29 HI.out.1 HI.out.2.1 HI.out.2.2.1 HI.out.2.2.2 rfl (by decide) (.slice pp l.length cap) l.length (nats l) rfl HOX.out ⟨wr.heap.size, 0, none⟩ 1 1 [.int .i64 (x : Int)] rfl rfl HNW.out (by simp [Value.oneCell']) (by decide) (by simp only [maxLen]; omega) (by omega) (by simp; omega) _ rfl ?_; intro g3 cap3 w3 hown3 hg3 hat3 hlt3)
            have hown4 : w3.ownsRow w.heap.size 3 1 (.slice (some ⟨g3, 0, none⟩) (l.length + 1) cap3) (prl (m + 1)).length (nats (prl (m + 1))) := by
              rw [HN.out, List.length_append]
              have e : nats (l ++ [x]) = nats l ++ [.int .i64 (x : Int)] := by simp [nats]
              rw [e]
              exact hown3
            have hb4 : Below w.heap.size w w3 := hb.grown (grown_alloc' hg3) hbsz (fun k hk => (HO.out.lt k hk).1)
            clear hown3 hg3 hat3 hlt3
            go_wp2_with fail
            go_roundw
            case rel => exact ⟨m + 1, by omega, by have := HX.out.2; go_num, hown4, hb4⟩
            case measure => have := HX.out.2; simp [intOf]; omega
          | false =>
            have hn : prl (m + 1) = l := HNX.out.trans (if_neg (by decide))
            have HN := Lib.hid hn; clear hn HNX
            go_wp2_with fail
            go_roundw
            case rel => exact ⟨m + 1, by omega, by have := HX.out.2; go_num, by rw [HN.out]; exact HO.out, hb⟩
            case measure => have := HX.out.2; simp [intOf]; omega
    · have hm1 := hlo hlt
      have hme : m = 310 := by omega
      have hl1 : ¬ (l.length : Int) < 64 := by omega
      clear hlo hsh
      have hown0 := hown
      have HO := Lib.hid hown0; clear hown0
      obtain ⟨pp, cap, rfl⟩ := own_slice hown
      clear hown
      go_wp2_with fail
      go_ret
      have hll := HX.out.1
      rw [hme] at hll
      rw [hll]
      exact ⟨_, rfl, HO.out, hb⟩
end Go.Proofs.YtbfomeifhmkpeaaDoor
