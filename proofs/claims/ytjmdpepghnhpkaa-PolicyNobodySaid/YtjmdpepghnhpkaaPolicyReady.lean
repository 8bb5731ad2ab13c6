/-
  The contract of PolicyReady.
-/
import Derived.Test.YtjmdpepghnhpkaaDueAw
import Derived.Deep.Slices
namespace Go.Proofs.Ytjmdpepghnhpkaa
open Go.RowKit
set_option linter.unusedVariables false

/-- The first k, in order. -/
def Du.ordK (L : List Du) (k : Nat) : List Du := (L.take k).foldl Du.put []
theorem Du.ordK_step {L : List Du} {k : Nat} (hk : k < L.length) : Du.ordK L (k + 1) = Du.put (Du.ordK L k) L[k] := by
  unfold Du.ordK
  rw [List.take_succ_eq_append_getElem hk, List.foldl_append]; rfl
theorem Du.ordK_len (L : List Du) (k : Nat) : (Du.ordK L k).length ≤ k := by
  have h := (Du.ord_perm (L.take k)).length_eq
  unfold Du.ord at h
  unfold Du.ordK
  rw [h, List.length_take]
  omega
theorem Du.find_at {p : Du → Bool} {l : List Du} {k : Nat} (hk : k < l.length) (h : ∀ x ∈ l.take k, p x = false) (hp : p l[k] = true) : l.find? p = some l[k] := by
  have e : l = l.take k ++ l[k] :: l.drop (k + 1) := by rw [← List.drop_eq_getElem_cons hk, List.take_append_drop]
  have h1 : (l.take k).find? p = none := List.find?_eq_none.2 (fun x hx => by rw [h x hx]; decide)
  conv => lhs; rw [e]
  rw [List.find?_append, h1, Option.none_or, List.find?_cons, hp]
theorem Du.find_no {p : Du → Bool} {l : List Du} (h : ∀ x ∈ l, p x = false) : l.find? p = none := List.find?_eq_none.2 (fun x hx => by rw [h x hx]; decide)
/-- What the second loop reads. -/
abbrev RdyS (p b o : Nat) (x y : Du) (W : World) : Prop := W.cell? ⟨p, 0, none⟩ = some (.int .i64 x.seq) ∧ W.cell? ⟨p, 1, none⟩ = some (.int .i64 x.due) ∧ W.cell? ⟨b, o, none⟩ = some (.int .i64 y.seq) ∧ W.cell? ⟨b, o + 1, none⟩ = some (.int .i64 y.due)
set_option maxRecDepth 100000 in
set_option maxHeartbeats 16000000 in
theorem policyReady_any {w : World} {L : List Du} {A : Option Addr} {cap : Nat} (hr : RowD w [] A L) (hl : L.length ≤ cap) (hc : cap ≤ 9223372036854775807) (now : Int) {bar : List Int} {B : Option Addr} {cb : Nat} (hb : RowI w [] B bar) (hbl : bar.length ≤ cb) (hcb : cb ≤ 9223372036854775807) :
    Calls Try.prog 5 #[.slice A L.length cap, .int .i64 now, .slice B bar.length cb] w fun r w' => r = .returned (.bool true) ∧ Below w.heap.size w w' := by
  have HR := Lib.hid hr
  have HAW := Lib.hid dawake_any
  obtain ⟨b20, h20⟩ : ∃ b20, bar.take 20 = b20 := ⟨_, rfl⟩
  have HB20 := Lib.hid (by have := RowI.take' hb 20; rw [h20] at this; exact this : RowI w [] B b20)
  have hl20 : b20.length ≤ 20 := by rw [← h20, List.length_take]; omega
  have hlc20 : b20.length ≤ cb := by rw [← h20, List.length_take]; omega
  have HSH : Hid (¬ (20 : Int) < (bar.length : Int) → bar = b20) := Lib.hid (fun h => by rw [← h20, List.take_of_length_le (by omega)])
  have HLO : Hid ((20 : Int) < (bar.length : Int) → b20.length = 20) := Lib.hid (fun h => by rw [← h20, List.length_take]; omega)
  clear hr hb h20
  go_enter Try.func5, Try.ntmps5
  have hcaseA : (20 : Int) < (bar.length : Int) ∨ ¬ (20 : Int) < (bar.length : Int) := by omega
  rcases hcaseA with h6 | h6
  case' inl =>
    have hb20 := HLO.out h6
    have h20c : (20 : Int) ≤ (cb : Int) := by omega
    go_upto_region 3 with fail
    rw [← hb20]
    clear hb20 h20c
  case' inr =>
    have hsh := HSH.out h6
    go_upto_region 3 with fail
    subst hsh
    generalize bar = b20 at *
  all_goals
    clear HSH HLO h6
    have hq := qnew w
    have hb0 : Below w.heap.size w (w.alloc (.cells #[.slice none 0 0] 32)) := (Below.refl _ w).alloc (Nat.le_refl _) _
    go_upto_region 4 with fail
    generalize w.alloc (.cells #[.slice none 0 0] 32) = W0 at hq hb0 ⊢
    obtain ⟨q, hqe⟩ : ∃ q, w.heap.size = q := ⟨_, rfl⟩
    rw [hqe] at hq ⊢
    have HQE := Lib.hid hqe
    have HB0 := Lib.hid hb0
    have HQ0 := Lib.hid hq
    clear hqe hb0 hq
    go_upto_block 0 with fail
    go_cut [8] (fun v8 wc => ∃ (k : Nat) (A' : Option Addr) (cap' : Nat) (s : List Nat), v8 = .slice A' (Du.ordK L k).length cap' ∧ Hid (k ≤ 60 ∧ (k = 60 ∨ k = L.length) ∧ QAt wc q s (Du.ordK L k) ∧ RowD wc (q :: s) A' (Du.ordK L k) ∧ (Du.ordK L k).length ≤ cap' ∧ cap' ≤ 9223372036854775807 ∧ Below w.heap.size w wc))
    case first =>
      go_wp2_with fail
      go_loopg [8, 9] 60 (fun n v8 v9 wr => ∃ (k : Nat) (A' : Option Addr) (cap' : Nat) (s : List Nat), k + n = 60 ∧ k ≤ L.length ∧ v9 = .int .i64 (k : Int) ∧ v8 = .slice A' (Du.ordK L k).length cap' ∧ QAt wr q s (Du.ordK L k) ∧ RowD wr (q :: s) A' (Du.ordK L k) ∧ (Du.ordK L k).length ≤ cap' ∧ cap' ≤ 9223372036854775807 ∧ Below w.heap.size w wr ∧ ∀ x ∈ s, w.heap.size ≤ x)
      case atStart => exact ⟨0, none, 0, [], rfl, Nat.zero_le _, rfl, rfl, HQ0.out, RowC.nil _ _ _, Nat.le_refl _, Nat.zero_le _, HB0.out, (by simp)⟩
      case round =>
        obtain ⟨k, A', cap', s, hkn, hkL, rfl, rfl, hQ, hrow, hlc', hcm', hbk, hsb⟩ := hrel
        by_cases hlt : k < L.length ∧ k < 60
        · have hki : (k : Int) < (L.length : Int) := by omega
          have hki2 : (k : Int) < 60 := by omega
          have hk0 : (0 : Int) ≤ (k : Int) := by omega
          have hkc : (k : Int) < (cap : Int) := by omega
          have hinc : IntKind.i64.wrap ((k : Int) + 1) = (k : Int) + 1 := by rw [IntKind.wrap_i64]; omega
          obtain ⟨n, hn⟩ : ∃ n, gk = n + 1 := ⟨gk - 1, by omega⟩
          subst hn
          have hol := Du.ordK_len L k
          obtain ⟨b, off, hA, hbw, -, p0, p1⟩ := RowD.get HR.out k hlt.1
          have HST := Lib.hid (Du.ordK_step hlt.1)
          subst hA
          generalize L[k]'hlt.1 = x at p0 p1 HST
          obtain ⟨xs, xd⟩ := x
          dsimp only at p0 p1
          have HP : Hid (∀ W, Below w.heap.size w W → W.cell? ⟨b, off + k * 2, none⟩ = some (.int .i64 xs) ∧ W.cell? ⟨b, off + k * 2 + 1, none⟩ = some (.int .i64 xd)) := Lib.hid (fun W hb => ⟨(hb.cell (p := ⟨b, off + k * 2, none⟩) hbw).trans p0, (hb.cell (p := ⟨b, off + k * 2 + 1, none⟩) hbw).trans p1⟩)
          have hadd := qadd_any hQ (by omega) ⟨xs, xd⟩
          dsimp only at hadd
          have HADD := Lib.hid hadd
          have HROW := Lib.hid hrow
          have HBK := Lib.hid hbk
          have HSB := Lib.hid hsb
          have HKN := Lib.hid (And.intro hkn hlt)
          clear p0 p1 hadd hrow hkn hsb hQ
          obtain ⟨c0, c1⟩ := HP.out _ hbk
          clear hbk
          go_wp2_with fail
          refine HADD.out.mono ?_
          rintro r w1 ⟨rfl, s1, hQ1, hm1, hs1⟩
          have HB1 := Lib.hid (hm1.below HBK.out HBK.out.size (by
            intro x hx
            rcases List.mem_cons.1 hx with rfl | hx
            · rw [HQE.out]; exact Nat.le_refl _
            · exact HSB.out x hx))
          have HSB1 := Lib.hid (fun x (hx : x ∈ s1) => (by
            rcases hs1 x hx with h | h
            · exact HSB.out x h
            · exact Nat.le_trans HBK.out.size h : w.heap.size ≤ x))
          have HROW1 := Lib.hid (QStep.row HROW.out hm1 hs1)
          have HQ1 := Lib.hid hQ1
          have hput := dput_any (HROW1.out.sub (t := []) (by simp)) hlc' hcm' (by omega) ⟨xs, xd⟩
          dsimp only at hput
          have HPUT := Lib.hid hput
          clear hput hm1 hs1 hQ1 HROW HBK HSB HADD c0 c1
          obtain ⟨c0, c1⟩ := HP.out _ HB1.out
          go_wp2_with fail
          refine HPUT.out.mono ?_
          rintro r w2 ⟨v, rfl, hown, hb2⟩
          obtain ⟨A2, cap2, rfl, hc2, hcm2, -, -, hrow2⟩ := own_rowC (s := q :: s1) hown (by
            intro x hx
            rcases List.mem_cons.1 hx with rfl | hx
            · exact HQ1.out.lt.1
            · exact HQ1.out.lt.2 x hx) (by decide)
          have hpl : (Du.put (Du.ordK L k) ⟨xs, xd⟩).length = (Du.ordK L k).length + 1 := by rw [(Du.put_perm _ _).length_eq, List.length_cons]
          have HREL : Hid (∃ s, QAt w2 q s (Du.ordK L (k + 1)) ∧ RowD w2 (q :: s) A2 (Du.ordK L (k + 1)) ∧ (Du.ordK L (k + 1)).length ≤ cap2 ∧ cap2 ≤ 9223372036854775807 ∧ Below w.heap.size w w2 ∧ ∀ x ∈ s, w.heap.size ≤ x) := Lib.hid (by
            rw [HST.out]
            exact ⟨s1, HQ1.out.below hb2, hrow2, by rw [hpl]; exact hc2, by simpa only [maxLen] using hcm2, HB1.out.trans (hb2.mono HB1.out.size), HSB1.out⟩)
          have HLN : Hid ((Du.ordK L (k + 1)).length = (Du.ordK L k).length + 1) := Lib.hid (by rw [HST.out, hpl])
          clear hown hb2 hc2 hcm2 hrow2 hpl HST HPUT HROW1 HQ1 HSB1 HB1 c0 c1 HP
          go_wp2_with fail
          go_roundg n
          case measure => omega
          case rel =>
            obtain ⟨s2, g1, g2, g3, g4, g5, g6⟩ := HREL.out
            exact ⟨k + 1, A2, cap2, s2, by have := HKN.out.1; omega, by have := HKN.out.2; omega, by go_num, by rw [HLN.out], g1, g2, g3, g4, g5, g6⟩
        · have HREL : Hid (k ≤ 60 ∧ (k = 60 ∨ k = L.length) ∧ QAt wr q s (Du.ordK L k) ∧ RowD wr (q :: s) A' (Du.ordK L k) ∧ (Du.ordK L k).length ≤ cap' ∧ cap' ≤ 9223372036854775807 ∧ Below w.heap.size w wr) := Lib.hid ⟨by omega, by omega, hQ, hrow, hlc', hcm', hbk⟩
          by_cases hkL2 : (k : Int) < (L.length : Int)
          · have hk3 : ¬ (k : Int) < 60 := by omega
            clear hlt hQ hrow hbk hsb
            go_wp2_with fail
            go_meet
            case rel => exact ⟨k, A', cap', s, rfl, HREL⟩
          · clear hlt hQ hrow hbk hsb
            go_wp2_with fail
            go_meet
            case rel => exact ⟨k, A', cap', s, rfl, HREL⟩
    case rest =>
      obtain ⟨k, A', cap', s, rfl, HC⟩ := hcut
      obtain ⟨hk60, -, hQ, hrow, hlc', hcm', hbk⟩ := HC.out
      have hlen : (Du.ordK L k).length ≤ 60 := Nat.le_trans (Du.ordK_len L k) hk60
      generalize Du.ordK L k = lk at *
      have HRD := Lib.hid (qready_any hQ (by omega) now (HB20.out.below hbk) hlc20 hcb (by omega))
      have HROW := Lib.hid (hrow.sub (t := []) (by simp))
      have HBK := Lib.hid hbk
      obtain ⟨o, ho⟩ : ∃ o, lk.find? (Du.ready now b20) = o := ⟨_, rfl⟩
      rw [ho] at HRD
      have HAT := Lib.hid (fun k (hk : k < lk.length) (h : ∀ x ∈ lk.take k, Du.ready now b20 x = false) hp => (Du.find_at hk h hp : lk.find? (Du.ready now b20) = _))
      have HNO := Lib.hid (fun (h : ∀ x ∈ lk, Du.ready now b20 x = false) => Du.find_no h)
      rw [ho] at HAT HNO
      clear hQ hrow hbk HC HR HQ0 HB0 ho
      go_wp2_with fail
      refine HRD.out.mono ?_
      rintro r w5 ⟨rfl, hb5⟩
      have HROW5 := Lib.hid (HROW.out.below hb5)
      have HB5 := Lib.hid (HBK.out.trans (hb5.mono HBK.out.size))
      clear hb5 HRD HROW HBK
      cases o with
      | none =>
        rw [show dueR none = .tuple #[.agg #[.int .i64 0, .int .i64 0], .bool false] from rfl]
        have hba : Below w5.heap.size w5 (w5.alloc (.cells #[.int .i64 0, .int .i64 0] 34)) := (Below.refl _ w5).alloc (Nat.le_refl _) _
        have HH := Lib.hid (Has.made w5 34 #[.int .i64 0, .int .i64 0])
        have HROW6 := Lib.hid (HROW5.out.below hba)
        have HB6 := Lib.hid (HB5.out.trans (hba.mono HB5.out.size))
        have hlp : w5.heap.size < (w5.alloc (.cells #[.int .i64 0, .int .i64 0] 34)).heap.size := by rw [asize]; omega
        clear hba HROW5 HB5
        go_upto_region 11 with fail
        generalize w5.alloc (.cells #[.int .i64 0, .int .i64 0] 34) = W6 at HROW6 HB6 HH hlp ⊢
        generalize w5.heap.size = p at HH hlp ⊢
        have z0 : W6.cell? ⟨p, 0, none⟩ = some (.int .i64 0) := HH.out.cell 0
        have z1 : W6.cell? ⟨p, 1, none⟩ = some (.int .i64 0) := HH.out.cell 1
        clear HH
        go_wp2_with fail
        go_loopg [12] lk.length (fun n v12 wr => ∃ k : Nat, k + n = lk.length ∧ v12 = .int .i64 (k : Int) ∧ Hid (∀ x ∈ lk.take k, Du.ready now b20 x = false) ∧ wr = W6)
        case atStart => exact ⟨0, Nat.zero_add _, rfl, Lib.hid (by simp), rfl⟩
        case round =>
          obtain ⟨j, hjn, rfl, HU, rfl⟩ := hrel
          cases gk with
          | zero =>
            have hnl : ¬ (j : Int) < (lk.length : Int) := by omega
            have hall := HU.out
            rw [List.take_of_length_le (by omega)] at hall
            have hfn := HNO.out hall
            clear hfn hall
            have hG := fun op o1 o2 W => run_duguard op o1 o2 0 0 0 0 W
            have hE := fun W => run_dueq 0 0 0 0 W
            rw [decide_eq_true rfl] at hE
            go_wp2_with fail
            refine (HAW.out _).mono ?_
            rintro r w7 ⟨rfl, hb7⟩
            go_wp2_with fail
            go_ret
            exact ⟨rfl, HB6.out.trans (hb7.mono HB6.out.size)⟩
          | succ n =>
            have hjl : (j : Int) < (lk.length : Int) := by omega
            have hj : j < lk.length := by omega
            have hincj : IntKind.i64.wrap ((j : Int) + 1) = (j : Int) + 1 := by rw [IntKind.wrap_i64]; omega
            have hjc : (j : Int) < (cap' : Int) := by omega
            have hj0 : (0 : Int) ≤ (j : Int) := by omega
            obtain ⟨bl, ol, hA, hbl, -, p0, p1⟩ := RowD.get HROW6.out j hj
            subst hA
            have HATJ := Lib.hid (HAT.out j hj HU.out)
            have HT : Hid (lk.take (j + 1) = lk.take j ++ [lk[j]'hj]) := Lib.hid (List.take_succ_eq_append_getElem hj)
            generalize lk[j]'hj = x at p0 p1 HATJ HT
            obtain ⟨xs, xd⟩ := x
            dsimp only at p0 p1
            have HN := Lib.hid hjn
            have HUP : Hid (Du.ready now b20 ⟨xs, xd⟩ = false → ∀ x ∈ lk.take (j + 1), Du.ready now b20 x = false) := Lib.hid (fun h x hx => by
              rw [HT.out] at hx
              rcases List.mem_append.1 hx with hx | hx
              · exact HU.out x hx
              · rw [List.mem_singleton.1 hx]; exact h)
            have HRY : Hid (Du.ready now b20 ⟨xs, xd⟩ = (decide (xd ≤ now) && !decide (xs ∈ b20))) := Lib.hid rfl
            clear hjn HU HT
            by_cases hdn : xd ≤ now
            · have HBR := Lib.hid (dbarred_any (HB20.out.below HB6.out) hlc20 hcb xs)
              by_cases hbr : xs ∈ b20
              · have HF := Lib.hid (HUP.out (by rw [HRY.out, decide_eq_true hbr, Bool.not_true, Bool.and_false]))
                rw [decide_eq_true hbr] at HBR
                clear hbr HUP HRY HATJ
                go_wp2_with fail
                refine HBR.out.mono ?_
                rintro r w7 ⟨rfl, e7⟩
                rw [e7]
                clear e7 w7
                go_wp2_with fail
                go_roundg n
                case measure => omega
                case rel => exact ⟨j + 1, by have := HN.out; omega, by go_num, HF, rfl⟩
              · have hfd := HATJ.out (by rw [HRY.out, decide_eq_true hdn, decide_eq_false hbr]; rfl)
                rw [decide_eq_false hbr] at HBR
                clear hbr HUP HRY HATJ
                cases hfd
            · have HF := Lib.hid (HUP.out (by rw [HRY.out, decide_eq_false hdn, Bool.false_and]))
              clear HUP HRY HATJ
              go_wp2_with fail
              go_roundg n
              case measure => omega
              case rel => exact ⟨j + 1, by have := HN.out; omega, by go_num, HF, rfl⟩
      | some d =>
        obtain ⟨ds, dd⟩ := d
        rw [show dueR (some ⟨ds, dd⟩) = .tuple #[.agg #[.int .i64 ds, .int .i64 dd], .bool true] from rfl]
        have hba : Below w5.heap.size w5 (w5.alloc (.cells #[.int .i64 ds, .int .i64 dd] 34)) := (Below.refl _ w5).alloc (Nat.le_refl _) _
        have HH := Lib.hid (Has.made w5 34 #[.int .i64 ds, .int .i64 dd])
        have HROW6 := Lib.hid (HROW5.out.below hba)
        have HB6 := Lib.hid (HB5.out.trans (hba.mono HB5.out.size))
        have hlp : w5.heap.size < (w5.alloc (.cells #[.int .i64 ds, .int .i64 dd] 34)).heap.size := by rw [asize]; omega
        clear hba HROW5 HB5
        go_upto_region 11 with fail
        generalize w5.alloc (.cells #[.int .i64 ds, .int .i64 dd] 34) = W6 at HROW6 HB6 HH hlp ⊢
        generalize w5.heap.size = p at HH hlp ⊢
        have z0 : W6.cell? ⟨p, 0, none⟩ = some (.int .i64 ds) := HH.out.cell 0
        have z1 : W6.cell? ⟨p, 1, none⟩ = some (.int .i64 dd) := HH.out.cell 1
        clear HH
        go_wp2_with fail
        go_loopg [12] lk.length (fun n v12 wr => ∃ k : Nat, k + n = lk.length ∧ v12 = .int .i64 (k : Int) ∧ Hid (∀ x ∈ lk.take k, Du.ready now b20 x = false) ∧ wr = W6)
        case atStart => exact ⟨0, Nat.zero_add _, rfl, Lib.hid (by simp), rfl⟩
        case round =>
          obtain ⟨j, hjn, rfl, HU, rfl⟩ := hrel
          cases gk with
          | zero =>
            have hnl : ¬ (j : Int) < (lk.length : Int) := by omega
            have hall := HU.out
            rw [List.take_of_length_le (by omega)] at hall
            have hfn := HNO.out hall
            cases hfn
          | succ n =>
            have hjl : (j : Int) < (lk.length : Int) := by omega
            have hj : j < lk.length := by omega
            have hincj : IntKind.i64.wrap ((j : Int) + 1) = (j : Int) + 1 := by rw [IntKind.wrap_i64]; omega
            have hjc : (j : Int) < (cap' : Int) := by omega
            have hj0 : (0 : Int) ≤ (j : Int) := by omega
            obtain ⟨bl, ol, hA, hbl, -, p0, p1⟩ := RowD.get HROW6.out j hj
            subst hA
            have HATJ := Lib.hid (HAT.out j hj HU.out)
            have HT : Hid (lk.take (j + 1) = lk.take j ++ [lk[j]'hj]) := Lib.hid (List.take_succ_eq_append_getElem hj)
            generalize lk[j]'hj = x at p0 p1 HATJ HT
            obtain ⟨xs, xd⟩ := x
            dsimp only at p0 p1
            have HN := Lib.hid hjn
            have HUP : Hid (Du.ready now b20 ⟨xs, xd⟩ = false → ∀ x ∈ lk.take (j + 1), Du.ready now b20 x = false) := Lib.hid (fun h x hx => by
              rw [HT.out] at hx
              rcases List.mem_append.1 hx with hx | hx
              · exact HU.out x hx
              · rw [List.mem_singleton.1 hx]; exact h)
            have HRY : Hid (Du.ready now b20 ⟨xs, xd⟩ = (decide (xd ≤ now) && !decide (xs ∈ b20))) := Lib.hid rfl
            clear hjn HU HT
            by_cases hdn : xd ≤ now
            · have HBR := Lib.hid (dbarred_any (HB20.out.below HB6.out) hlc20 hcb xs)
              by_cases hbr : xs ∈ b20
              · have HF := Lib.hid (HUP.out (by rw [HRY.out, decide_eq_true hbr, Bool.not_true, Bool.and_false]))
                rw [decide_eq_true hbr] at HBR
                clear hbr HUP HRY HATJ
                go_wp2_with fail
                refine HBR.out.mono ?_
                rintro r w7 ⟨rfl, e7⟩
                rw [e7]
                clear e7 w7
                go_wp2_with fail
                go_roundg n
                case measure => omega
                case rel => exact ⟨j + 1, by have := HN.out; omega, by go_num, HF, rfl⟩
              · have hfd := HATJ.out (by rw [HRY.out, decide_eq_true hdn, decide_eq_false hbr]; rfl)
                rw [decide_eq_false hbr] at HBR
                clear hbr HUP HRY HATJ
                injection hfd with hfd
                injection hfd with a1 a2
                subst a1
                subst a2
                have hG := fun op o1 o2 W => run_duguard op o1 o2 ds dd ds dd W
                have hE := fun W => run_dueq ds dd ds dd W
                rw [decide_eq_true rfl] at hE
                go_wp2_with fail
                refine HBR.out.mono ?_
                rintro r w7 ⟨rfl, e7⟩
                rw [e7]
                clear e7 w7
                go_upto_region 15 with fail
                have hx : RdyS p bl (ol + j * 2) ⟨ds, dd⟩ ⟨ds, dd⟩ wr.drew := ⟨z0, z1, p0, p1⟩
                have HB7 := Lib.hid (HB6.out.drew)
                have hbp : p < wr.drew.heap.size ∧ bl < wr.drew.heap.size := ⟨hlp, hbl⟩
                clear HBR HB6 HROW6 z0 z1 p0 p1 hlp hbl
                refine wp_region_held_drew (S := RdyS p bl (ol + j * 2) ⟨ds, dd⟩ ⟨ds, dd⟩) (by kernel_rfl) hx (fun hHeld => ?_)
                generalize wr.drew = wd at hx hHeld HB7 hbp ⊢
                first
                | (refine take_wanted (i := 0) (v := ?_) rfl rfl (by kernel_rfl) (by kernel_rfl) (by kernel_rfl) (fun _ _ _ h => h) (by rfl) (by assumption) ?_ ?_; rotate_left; (focus (intro w hSw; (try dsimp only at hSw); go_simp; first | done | with_reducible rfl)); (simp only [Act.at, List.setIfInBounds_toArray, List.set_cons_zero, List.set_cons_succ]))
                | (refine take_unwanted (i := 0) rfl rfl (by kernel_rfl) (by kernel_rfl) (by kernel_rfl) (fun _ _ _ h => h) (by rfl) (by assumption) ?_; (simp only [Act.at, List.setIfInBounds_toArray, List.set_cons_zero, List.set_cons_succ]))
                first
                | (refine take_wanted (i := 1) (v := ?_) rfl rfl (by kernel_rfl) (by kernel_rfl) (by kernel_rfl) (fun _ _ _ h => h) (by rfl) (by assumption) ?_ ?_; rotate_left; (focus (intro w hSw; (try dsimp only at hSw); go_simp; first | done | with_reducible rfl)); (simp only [Act.at, List.setIfInBounds_toArray, List.set_cons_zero, List.set_cons_succ]))
                | (refine take_unwanted (i := 1) rfl rfl (by kernel_rfl) (by kernel_rfl) (by kernel_rfl) (fun _ _ _ h => h) (by rfl) (by assumption) ?_; (simp only [Act.at, List.setIfInBounds_toArray, List.set_cons_zero, List.set_cons_succ]))
                first
                | (refine take_wanted (i := 2) (v := ?_) rfl rfl (by kernel_rfl) (by kernel_rfl) (by kernel_rfl) (fun _ _ _ h => h) (by rfl) (by assumption) ?_ ?_; rotate_left; (focus (intro w hSw; (try dsimp only at hSw); go_simp; first | done | with_reducible rfl)); (simp only [Act.at, List.setIfInBounds_toArray, List.set_cons_zero, List.set_cons_succ]))
                | (refine take_unwanted (i := 2) rfl rfl (by kernel_rfl) (by kernel_rfl) (by kernel_rfl) (fun _ _ _ h => h) (by rfl) (by assumption) ?_; (simp only [Act.at, List.setIfInBounds_toArray, List.set_cons_zero, List.set_cons_succ]))
                first
                | (refine take_wanted (i := 3) (v := ?_) rfl rfl (by kernel_rfl) (by kernel_rfl) (by kernel_rfl) (fun _ _ _ h => h) (by rfl) (by assumption) ?_ ?_; rotate_left; (focus (intro w hSw; (try dsimp only at hSw); go_simp; first | done | with_reducible rfl)); (simp only [Act.at, List.setIfInBounds_toArray, List.set_cons_zero, List.set_cons_succ]))
                | (refine take_unwanted (i := 3) rfl rfl (by kernel_rfl) (by kernel_rfl) (by kernel_rfl) (fun _ _ _ h => h) (by rfl) (by assumption) ?_; (simp only [Act.at, List.setIfInBounds_toArray, List.set_cons_zero, List.set_cons_succ]))
                first
                | (refine take_wanted (i := 4) (v := ?_) rfl rfl (by kernel_rfl) (by kernel_rfl) (by kernel_rfl) (fun _ _ _ h => h) (by rfl) (by assumption) ?_ ?_; rotate_left; (focus (intro w hSw; (try dsimp only at hSw); go_simp; first | done | with_reducible rfl)); (simp only [Act.at, List.setIfInBounds_toArray, List.set_cons_zero, List.set_cons_succ]))
                | (refine take_unwanted (i := 4) rfl rfl (by kernel_rfl) (by kernel_rfl) (by kernel_rfl) (fun _ _ _ h => h) (by rfl) (by assumption) ?_; (simp only [Act.at, List.setIfInBounds_toArray, List.set_cons_zero, List.set_cons_succ]))
                first
                | (refine take_wanted (i := 5) (v := ?_) rfl rfl (by kernel_rfl) (by kernel_rfl) (by kernel_rfl) (fun _ _ _ h => h) (by rfl) (by assumption) ?_ ?_; rotate_left; (focus (intro w hSw; (try dsimp only at hSw); go_simp; first | done | with_reducible rfl)); (simp only [Act.at, List.setIfInBounds_toArray, List.set_cons_zero, List.set_cons_succ]))
                | (refine take_unwanted (i := 5) rfl rfl (by kernel_rfl) (by kernel_rfl) (by kernel_rfl) (fun _ _ _ h => h) (by rfl) (by assumption) ?_; (simp only [Act.at, List.setIfInBounds_toArray, List.set_cons_zero, List.set_cons_succ]))
                first
                | (refine take_wanted (i := 6) (v := ?_) rfl rfl (by kernel_rfl) (by kernel_rfl) (by kernel_rfl) (fun _ _ _ h => h) (by rfl) (by assumption) ?_ ?_; rotate_left; (focus (intro w hSw; (try dsimp only at hSw); go_simp; first | done | with_reducible rfl)); (simp only [Act.at, List.setIfInBounds_toArray, List.set_cons_zero, List.set_cons_succ]))
                | (refine take_unwanted (i := 6) rfl rfl (by kernel_rfl) (by kernel_rfl) (by kernel_rfl) (fun _ _ _ h => h) (by rfl) (by assumption) ?_; (simp only [Act.at, List.setIfInBounds_toArray, List.set_cons_zero, List.set_cons_succ]))
                first
                | (refine take_wanted (i := 7) (v := ?_) rfl rfl (by kernel_rfl) (by kernel_rfl) (by kernel_rfl) (fun _ _ _ h => h) (by rfl) (by assumption) ?_ ?_; rotate_left; (focus (intro w hSw; (try dsimp only at hSw); go_simp; first | done | with_reducible rfl)); (simp only [Act.at, List.setIfInBounds_toArray, List.set_cons_zero, List.set_cons_succ]))
                | (refine take_unwanted (i := 7) rfl rfl (by kernel_rfl) (by kernel_rfl) (by kernel_rfl) (fun _ _ _ h => h) (by rfl) (by assumption) ?_; (simp only [Act.at, List.setIfInBounds_toArray, List.set_cons_zero, List.set_cons_succ]))
                first
                | (refine take_wanted (i := 8) (v := ?_) rfl rfl (by kernel_rfl) (by kernel_rfl) (by kernel_rfl) (fun _ _ _ h => h) (by rfl) (by assumption) ?_ ?_; rotate_left; (focus (intro w hSw; (try dsimp only at hSw); go_simp; first | done | with_reducible rfl)); (simp only [Act.at, List.setIfInBounds_toArray, List.set_cons_zero, List.set_cons_succ]))
                | (refine take_unwanted (i := 8) rfl rfl (by kernel_rfl) (by kernel_rfl) (by kernel_rfl) (fun _ _ _ h => h) (by rfl) (by assumption) ?_; (simp only [Act.at, List.setIfInBounds_toArray, List.set_cons_zero, List.set_cons_succ]))
                first
                | (refine take_wanted (i := 9) (v := ?_) rfl rfl (by kernel_rfl) (by kernel_rfl) (by kernel_rfl) (fun _ _ _ h => h) (by rfl) (by assumption) ?_ ?_; rotate_left; (focus (intro w hSw; (try dsimp only at hSw); go_simp; first | done | with_reducible rfl)); (simp only [Act.at, List.setIfInBounds_toArray, List.set_cons_zero, List.set_cons_succ]))
                | (refine take_unwanted (i := 9) rfl rfl (by kernel_rfl) (by kernel_rfl) (by kernel_rfl) (fun _ _ _ h => h) (by rfl) (by assumption) ?_; (simp only [Act.at, List.setIfInBounds_toArray, List.set_cons_zero, List.set_cons_succ]))
                refine take_call (i := 10) (by kernel_rfl) rfl rfl (by rfl) (fun K hK => ?_)
                go_simp
                refine (HAW.out _).mono ?_
                rintro r w8 ⟨rfl, hb8⟩
                have hx8 : RdyS p bl (ol + j * 2) ⟨ds, dd⟩ ⟨ds, dd⟩ w8 := ⟨(hb8.cell (p := ⟨p, 0, none⟩) hbp.1).trans hx.1, (hb8.cell (p := ⟨p, 1, none⟩) hbp.1).trans hx.2.1, (hb8.cell (p := ⟨bl, ol + j * 2, none⟩) hbp.2).trans hx.2.2.1, (hb8.cell (p := ⟨bl, ol + j * 2 + 1, none⟩) hbp.2).trans hx.2.2.2⟩
                have HB8 := Lib.hid (HB7.out.trans (hb8.mono HB7.out.size))
                clear hx hHeld hb8 HB7 hbp
                refine hK.out _ _ hx8 (fun hHeld => ?_)
                clear hK K
                try simp only [Act.put, List.setIfInBounds_toArray, List.set_cons_zero, List.set_cons_succ]
                first
                | (refine take_wanted (i := 11) (v := ?_) rfl rfl (by kernel_rfl) (by kernel_rfl) (by kernel_rfl) (fun _ _ _ h => h) (by rfl) (by assumption) ?_ ?_; rotate_left; (focus (intro w hSw; (try dsimp only at hSw); go_simp; first | done | with_reducible rfl)); (simp only [Act.at, List.setIfInBounds_toArray, List.set_cons_zero, List.set_cons_succ]))
                | (refine take_unwanted (i := 11) rfl rfl (by kernel_rfl) (by kernel_rfl) (by kernel_rfl) (fun _ _ _ h => h) (by rfl) (by assumption) ?_; (simp only [Act.at, List.setIfInBounds_toArray, List.set_cons_zero, List.set_cons_succ]))
                first
                | (refine take_wanted (i := 12) (v := ?_) rfl rfl (by kernel_rfl) (by kernel_rfl) (by kernel_rfl) (fun _ _ _ h => h) (by rfl) (by assumption) ?_ ?_; rotate_left; (focus (intro w hSw; (try dsimp only at hSw); go_simp; first | done | with_reducible rfl)); (simp only [Act.at, List.setIfInBounds_toArray, List.set_cons_zero, List.set_cons_succ]))
                | (refine take_unwanted (i := 12) rfl rfl (by kernel_rfl) (by kernel_rfl) (by kernel_rfl) (fun _ _ _ h => h) (by rfl) (by assumption) ?_; (simp only [Act.at, List.setIfInBounds_toArray, List.set_cons_zero, List.set_cons_succ]))
                refine wpAnyH_done (by kernel_rfl) ?_ _
                go_wp2_with fail
                go_ret
                exact ⟨rfl, HB8.out⟩
            · have HF := Lib.hid (HUP.out (by rw [HRY.out, decide_eq_false hdn, Bool.false_and]))
              clear HUP HRY HATJ
              go_wp2_with fail
              go_roundg n
              case measure => omega
              case rel => exact ⟨j + 1, by have := HN.out; omega, by go_num, HF, rfl⟩
end Go.Proofs.Ytjmdpepghnhpkaa
