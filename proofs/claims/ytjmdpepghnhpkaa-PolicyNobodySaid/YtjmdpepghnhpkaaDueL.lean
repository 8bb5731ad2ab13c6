/-
  The fifteenth layer's statements' own drop.
-/
import Derived.Test.YtjmdpepghnhpkaaDueQ
namespace Go.Proofs.Ytjmdpepghnhpkaa
open Go.RowKit
set_option linter.unusedVariables false

/-- What drop leaves: a queue and a list that are one. -/
def DropPost (w : World) (q : Nat) (s : List Nat) (l : List Du) (r : Ending) (w' : World) : Prop :=
  ∃ (l' : List Du) (A' : Option Addr) (cap' : Nat) (s' : List Nat), r = .returned (.tuple #[.slice A' l'.length cap', .bool true]) ∧ (∀ x ∈ l', x ∈ l) ∧ l'.length ≤ l.length ∧ l'.length ≤ cap' ∧ cap' ≤ 9223372036854775807 ∧ QAt w' q s' l' ∧ RowD w' (q :: s') A' l' ∧ Mv w w' (q :: s) ∧ ∀ x ∈ s', x ∈ s ∨ w.heap.size ≤ x
set_option maxRecDepth 100000 in
set_option maxHeartbeats 8000000 in
theorem ddrop_any {w : World} {q : Nat} {s : List Nat} {l : List Du} {A : Option Addr} {cap : Nat} (h : QAt w q s l) (hr : RowD w (q :: s) A l) (hl : l.length ≤ cap) (hc : cap ≤ 9223372036854775807) (hn : l.length ≤ 1000) (hfit : ∀ x ∈ l, x.due ≤ 9223372036854775807) (seq : Int) :
    Calls Try.prog 12 #[.pointer (some ⟨q, 0, none⟩), .slice A l.length cap, .int .i64 seq] w (DropPost w q s l) := by
  have HD := Lib.hid (qdrop_any h hn hfit seq)
  have HR := Lib.hid hr
  clear hr h hfit
  go_enter Try.func12, Try.ntmps12
  go_wp2_with fail
  refine HD.out.mono ?_
  rintro r w1 (⟨rfl, i0, hi0, hseq, s1, hq1, hm1, hs1⟩ | ⟨rfl, hno, s1, hq1, hm1, hs1⟩)
  · -- one was dropped
    have HR1 := Lib.hid (QStep.row HR.out hm1 hs1)
    have hl1 : (l.take i0 ++ l.drop (i0 + 1)).length ≤ l.length := by rw [List.length_append, List.length_take, List.length_drop]; omega
    have HSUB : Hid (∀ x ∈ l.take i0 ++ l.drop (i0 + 1), x ∈ l) := Lib.hid (fun x hx => by
      rcases List.mem_append.1 hx with hx | hx
      · exact List.mem_of_mem_take hx
      · exact List.mem_of_mem_drop hx)
    have HE0 : Hid (∀ k, k = i0 → l.take k ++ l.drop (k + 1) = l.take i0 ++ l.drop (i0 + 1)) := Lib.hid (fun k e => by rw [e])
    have HSQ : Hid (∀ k (hk : k < l.length), k = i0 → (l[k]'hk).seq = seq) := Lib.hid (fun k hk e => by subst e; exact hseq)
    generalize l.take i0 ++ l.drop (i0 + 1) = l1 at hq1 hl1 HE0 HSUB
    have HA := Lib.hid (qall_any hq1 (by omega))
    have HQ1 := Lib.hid hq1
    have HM := Lib.hid (And.intro hm1 hs1)
    clear hq1 hm1 hs1 HR HD hseq
    go_wp2_with fail
    refine HA.out.mono ?_
    rintro r w2 ⟨A2, cap2, rfl, hlc2, hcm2, hrow2, hb2⟩
    have HL := Lib.hid (hrow2 (q :: s1) (fun x hx => by
      rcases List.mem_cons.1 hx with rfl | hx
      · exact HQ1.out.lt.1
      · exact HQ1.out.lt.2 x hx))
    have HB2 := Lib.hid hb2
    clear hrow2 hb2 HA
    go_wp2_with fail
    go_loopg [10] l.length (fun n v10 wr => ∃ k : Nat, k + n = l.length ∧ v10 = .int .i64 (k : Int) ∧ k ≤ i0 ∧ Below w2.heap.size w2 wr)
    case atStart => exact ⟨0, Nat.zero_add _, rfl, Nat.zero_le _, Below.refl _ _⟩
    case round =>
      obtain ⟨k, hkn, rfl, hki, hbk⟩ := hrel
      cases gk with
      | zero => omega
      | succ n =>
        have hlt : (k : Int) < (l.length : Int) := by omega
        have hk : k < l.length := by omega
        have hinc : IntKind.i64.wrap ((k : Int) + 1) = (k : Int) + 1 := by rw [IntKind.wrap_i64]; omega
        have hkc : (k : Int) < (cap : Int) := by omega
        have hk0 : (0 : Int) ≤ (k : Int) := by omega
        have HRK := Lib.hid (((HR1.out.below HB2.out).below hbk).sub (t := []) (by simp))
        have HW := Lib.hid (fun (W : World) (hb : Below wr.heap.size wr W) => dwithout_any (HRK.out.below hb) hl hc (by omega) k hk)
        obtain ⟨b, off, hA, hbl, -, p0, p1⟩ := RowD.get HRK.out k hk
        subst hA
        have HSK := Lib.hid (HSQ.out k hk)
        generalize l[k]'hk = x at p0 p1 HSK
        obtain ⟨xs, xd⟩ := x
        dsimp only at p0 p1
        have HN := Lib.hid hkn
        clear hkn p1
        by_cases hx : xs = seq
        · subst hx
          go_wp2_with fail
          refine (HW.out _ (Below.refl _ _)).mono ?_
          rintro r w4 ⟨v, rfl, hown4, hb4⟩
          obtain ⟨A4, cap4, rfl, hc4, hcm4, -, hlen4, hrow4⟩ := own_rowC (s := []) hown4 (by simp) (by decide)
          have hln : (l.take k ++ l.drop (k + 1)).length = k + (l.length - (k + 1)) := by rw [List.length_append, List.length_take, List.length_drop, Nat.min_eq_left (by omega)]
          have hsm := fun (W : World) (hb : Below w4.heap.size w4 W) => dsame_any (hrow4.below hb) ((((HL.out.below hbk).below hb4).below hb).sub (t := []) (by simp)) (by rw [hln]; exact hc4) hlc2 (by simpa only [maxLen] using hcm4) hcm2
          rw [hln] at hsm
          have HSM := Lib.hid hsm
          have HB4 := Lib.hid (hbk.trans (hb4.mono hbk.size))
          have HEK := Lib.hid (HE0.out k)
          have HP4 := Lib.hid (And.intro hb4 p0)
          clear hsm hown4 hrow4 hlen4 hln hb4 HW p0
          generalize l.take k ++ l.drop (k + 1) = lk at HSM HEK
          go_wp2_with fail
          refine (HSM.out _ (Below.refl _ _)).mono ?_
          rintro r w5 ⟨rfl, hb5⟩
          have HB5 := Lib.hid (HB4.out.trans (hb5.mono HB4.out.size))
          have HP5 := Lib.hid (((HP4.out.1.trans (hb5.mono HP4.out.1.size)).cell (p := ⟨b, off + k * 2, none⟩) hbl).trans HP4.out.2)
          clear hb5 HSM HP4
          by_cases he : lk = l1
          · rw [decide_eq_true he]
            clear he
            go_wp2_with fail
            go_ret2
            exact ⟨l1, A2, cap2, s1, rfl, HSUB.out, hl1, hlc2, hcm2, (HQ1.out.below HB2.out).below HB5.out, HL.out.below HB5.out, (HM.out.1.trans (Mv.of_below HB2.out _)).trans (Mv.of_below HB5.out _), HM.out.2⟩
          · have hki2 : k ≠ i0 := fun e => he (HEK.out e)
            rw [decide_eq_false he]
            clear he HEK
            have q0 := HP5.out
            go_wp2_with fail
            go_roundg n
            case measure => omega
            case rel => exact ⟨k + 1, by have := HN.out; omega, by go_num, by omega, HB5.out⟩
        · have hxb : (xs == seq) = false := by rw [beq_eq_false_iff_ne]; exact hx
          have hki2 : k ≠ i0 := fun e => hx (HSK.out e)
          clear hx
          go_wp2_with fail
          go_roundg n
          case measure => omega
          case rel => exact ⟨k + 1, by have := HN.out; omega, by go_num, by omega, hbk⟩
  · -- none was there
    have HR1 := Lib.hid (QStep.row HR.out hm1 hs1)
    have HA := Lib.hid (qall_any hq1 hn)
    have HQ1 := Lib.hid hq1
    have HM := Lib.hid (And.intro hm1 hs1)
    have HNO := Lib.hid hno
    clear hq1 hm1 hs1 HR HD hno
    go_wp2_with fail
    refine HA.out.mono ?_
    rintro r w2 ⟨A2, cap2, rfl, hlc2, hcm2, hrow2, hb2⟩
    have HL := Lib.hid (hrow2 [] (by simp))
    have HB2 := Lib.hid hb2
    clear hrow2 hb2 HA
    go_wp2_with fail
    go_loopg [10] l.length (fun n v10 wr => ∃ k : Nat, k + n = l.length ∧ v10 = .int .i64 (k : Int) ∧ wr = w2)
    case atStart => exact ⟨0, Nat.zero_add _, rfl, rfl⟩
    case round =>
      obtain ⟨k, hkn, rfl, rfl⟩ := hrel
      cases gk with
      | zero =>
        have hlt : ¬ (k : Int) < (l.length : Int) := by omega
        have hsm := dsame_any ((HR1.out.below HB2.out).sub (t := []) (by simp)) HL.out hl hlc2 hc hcm2
        rw [decide_eq_true rfl] at hsm
        have HSM := Lib.hid hsm
        clear hsm
        go_wp2_with fail
        refine HSM.out.mono ?_
        rintro r w5 ⟨rfl, hb5⟩
        go_wp2_with fail
        go_ret2
        exact ⟨l, A, cap, s1, rfl, fun x hx => hx, Nat.le_refl _, hl, hc, (HQ1.out.below HB2.out).below hb5, (HR1.out.below HB2.out).below hb5, (HM.out.1.trans (Mv.of_below HB2.out _)).trans (Mv.of_below hb5 _), HM.out.2⟩
      | succ n =>
        have hlt : (k : Int) < (l.length : Int) := by omega
        have hk : k < l.length := by omega
        have hinc : IntKind.i64.wrap ((k : Int) + 1) = (k : Int) + 1 := by rw [IntKind.wrap_i64]; omega
        have hkc : (k : Int) < (cap : Int) := by omega
        have hk0 : (0 : Int) ≤ (k : Int) := by omega
        obtain ⟨b, off, hA, -, -, p0, p1⟩ := RowD.get (HR1.out.below HB2.out) k hk
        subst hA
        have HSK := Lib.hid (HNO.out _ (List.getElem_mem hk))
        generalize l[k]'hk = x at p0 p1 HSK
        obtain ⟨xs, xd⟩ := x
        dsimp only at p0 p1
        have hxb : (xs == seq) = false := by rw [beq_eq_false_iff_ne]; exact HSK.out
        have HN := Lib.hid hkn
        clear hkn p1
        go_wp2_with fail
        go_roundg n
        case measure => omega
        case rel => exact ⟨k + 1, by have := HN.out; omega, by go_num, rfl⟩
end Go.Proofs.Ytjmdpepghnhpkaa
