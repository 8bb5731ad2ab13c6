/-
  The contract of find's Run, where what it asks of the order is told.
-/
import Derived.Test.YtfcmkbeilpclmaaFndF
import Derived.Test.YtfcmkbeilpclmaaFndG
import Derived.Test.YtfcmkbeilpclmaaFndMore
namespace Go.Proofs.Ytfcmkbeilpclmaa
open Go.RowKit Go.Lib
set_option linter.unusedVariables false

/-- What is asked of the ordering. -/
def OrdOk (w : World) (B : Option Addr) (capB : Nat) (L : List Ppr) (q : Fnd.Qry) : Prop :=
  ∀ (W : World) (v : Value), Below w.heap.size w W → W.ownsRow w.heap.size 3 1 v (Fnd.found q (L.map Ppr.L) L.length).length (nvs (Fnd.found q (L.map Ppr.L) L.length)) →
    Calls Try.prog 35 #[v, .slice B L.length capB, .string (S q.nm), .bool q.down] W fun r w' => ∃ v', r = .returned v' ∧
      w'.ownsRow w.heap.size 3 1 v' (Fnd.srt (Fnd.order q (L.map Ppr.L)) (Fnd.found q (L.map Ppr.L) L.length)).length (nvs (Fnd.srt (Fnd.order q (L.map Ppr.L)) (Fnd.found q (L.map Ppr.L) L.length))) ∧ Below W.heap.size W w'
/-- What Run gives. -/
def RunPost (w : World) (q : Fnd.Qry) (Ls : List (List Fld)) (r : Ending) (w' : World) : Prop :=
  Below w.heap.size w w' ∧ ((Fnd.check q ≠ 0 ∧ r = .returned (.tuple #[.slice none 0 0, .int .i64 (Fnd.check q)])) ∨
    (Fnd.check q = 0 ∧ ∃ A cap, r = .returned (.tuple #[.slice A (Fnd.run q Ls).length cap, .int .i64 0]) ∧ RowC w' [] A (nvs (Fnd.run q Ls)) ∧ (Fnd.run q Ls).length ≤ cap))
theorem Fnd.most_ok {q : Fnd.Qry} (h : Fnd.check q = 0) : 0 ≤ q.most := by
  refine Decidable.byContradiction fun hn => ?_
  unfold Fnd.check at h
  rw [if_pos (Or.inr (by omega))] at h
  cases h
theorem nvs_take (L : List Nat) (k : Nat) : (nvs L).take k = nvs (L.take k) := by unfold nvs; rw [List.map_take]
set_option maxHeartbeats 16000000 in
set_option maxRecDepth 100000 in
theorem run_any {w : World} {T : List Fnd.Trm} {A B : Option Addr} {cap capB : Nat} {L : List Ppr} (nm : List UInt8) (d : Bool) (m : Int) (hrow : RowTm w A T) (hok : ∀ t ∈ T, t.Ok) (hnm : nm.length ≤ 1000000) (hL : RowPp w B L) (hT : T.length ≤ 1000000) (hLl : L.length ≤ 1000000)
    (hord : nm ≠ [] → ∀ W, Below w.heap.size w W → OrdOk W B capB L ⟨T, nm, d, m⟩) :
    Calls Try.prog 16 #[.agg #[.slice A T.length cap, .string (S nm), .bool d, .int .i64 m], .slice B L.length capB] w (RunPost w ⟨T, nm, d, m⟩ (L.map Ppr.L)) := by
  have HCK : Hid (_ : Prop) := Lib.hid (fun W (h : Below w.heap.size w W) => fcheck_any (w := W) (T := T) (A := A) (cap := cap) nm d m (hrow.below h) hok hnm hT)
  have HMT : Hid (_ : Prop) := Lib.hid (fun W (h : Below w.heap.size w W) => matches_any (w := W) (T := T) (A := A) (cap := cap) (B := B) (capB := capB) (L := L) nm d m (hrow.below h) hok (hL.below h) hT hLl)
  have hrl : Fnd.run ⟨T, nm, d, m⟩ (L.map Ppr.L) = (Fnd.srt (Fnd.order ⟨T, nm, d, m⟩ (L.map Ppr.L)) (Fnd.found ⟨T, nm, d, m⟩ (L.map Ppr.L) L.length)).take m.toNat := by unfold Fnd.run; rw [List.length_map]
  have hmo := Fnd.most_ok (q := ⟨T, nm, d, m⟩)
  have hOrd : nm ≠ [] → ∀ W, Below w.heap.size w W → ∀ (W2 : World) (v : Value), Below W.heap.size W W2 → W2.ownsRow W.heap.size 3 1 v (Fnd.found ⟨T, nm, d, m⟩ (L.map Ppr.L) L.length).length (nvs (Fnd.found ⟨T, nm, d, m⟩ (L.map Ppr.L) L.length)) →
    Calls Try.prog 35 #[v, .slice B L.length capB, .string (S nm), .bool d] W2 fun r w' => ∃ v', r = .returned v' ∧
      w'.ownsRow W.heap.size 3 1 v' (Fnd.srt (Fnd.order ⟨T, nm, d, m⟩ (L.map Ppr.L)) (Fnd.found ⟨T, nm, d, m⟩ (L.map Ppr.L) L.length)).length (nvs (Fnd.srt (Fnd.order ⟨T, nm, d, m⟩ (L.map Ppr.L)) (Fnd.found ⟨T, nm, d, m⟩ (L.map Ppr.L) L.length))) ∧ Below W2.heap.size W2 w' := fun h W hW => hord h W hW
  have hno : nm = [] → Fnd.srt (Fnd.order ⟨T, nm, d, m⟩ (L.map Ppr.L)) (Fnd.found ⟨T, nm, d, m⟩ (L.map Ppr.L) L.length) = Fnd.found ⟨T, nm, d, m⟩ (L.map Ppr.L) L.length := fun h => Fnd.srt_none (fun i j => by unfold Fnd.order; rw [if_pos h]) _
  have hsl : (Fnd.srt (Fnd.order ⟨T, nm, d, m⟩ (L.map Ppr.L)) (Fnd.found ⟨T, nm, d, m⟩ (L.map Ppr.L) L.length)).length ≤ 1000000 := by
    have h1 := (Fnd.srt_perm (Fnd.order ⟨T, nm, d, m⟩ (L.map Ppr.L)) (Fnd.found ⟨T, nm, d, m⟩ (L.map Ppr.L) L.length)).length_eq
    have h2 := Fnd.found_len ⟨T, nm, d, m⟩ (L.map Ppr.L) L.length
    omega
  unfold RunPost
  generalize Fnd.run ⟨T, nm, d, m⟩ (L.map Ppr.L) = R at hrl ⊢
  generalize Fnd.srt (Fnd.order ⟨T, nm, d, m⟩ (L.map Ppr.L)) (Fnd.found ⟨T, nm, d, m⟩ (L.map Ppr.L) L.length) = SR at hrl hOrd hno hsl
  generalize Fnd.found ⟨T, nm, d, m⟩ (L.map Ppr.L) L.length = FO at HMT hOrd hno
  generalize Fnd.check ⟨T, nm, d, m⟩ = ck at HCK hmo ⊢
  have HOR := Lib.hid hOrd
  have HNO := Lib.hid hno
  have HRL := Lib.hid hrl
  clear hrow hok hL hord hrl hOrd hno
  dsimp only at hmo
  have hQ := Has.made w 24 #[.slice A T.length cap, .string (S nm), .bool d, .int .i64 m]
  have hB := up1 (w := w) (.cells #[.slice A T.length cap, .string (S nm), .bool d, .int .i64 m] 24)
  go_enter Try.func16, Try.ntmps16
  go_upto_region 1 with fail
  have hsz := asize w (.cells #[.slice A T.length cap, .string (S nm), .bool d, .int .i64 m] 24)
  generalize w.alloc (.cells #[.slice A T.length cap, .string (S nm), .bool d, .int .i64 m] 24) = W0 at hQ hB hsz ⊢
  have q0 := hQ.cell 0
  have q1 := hQ.cell 1
  have q2 := hQ.cell 2
  have q3 := hQ.cell 3
  have HQ := Lib.hid hQ
  have HB := Lib.hid hB
  clear hQ hB
  go_wp2_with fail
  refine (HCK.out _ HB.out).mono ?_
  rintro r W1 ⟨rfl, hb1⟩
  have HB1 := Lib.hid (HB.out.trans (hb1.mono HB.out.size))
  have hQ1 := HQ.out.below hb1 (by omega)
  have hs1 := hb1.size
  clear hb1 q0 q1 q2 q3 HQ HCK
  have q0 := hQ1.cell 0
  have q1 := hQ1.cell 1
  have q2 := hQ1.cell 2
  have q3 := hQ1.cell 3
  have HQ1 := Lib.hid hQ1
  clear hQ1
  by_cases h0 : ck = 0
  · have hm0 := hmo h0
    subst h0
    clear hmo
    go_wp2_with fail
    refine (HMT.out _ HB1.out).mono ?_
    rintro r W2 ⟨v2, rfl, hown2, hb2⟩
    have HB2 := Lib.hid (HB1.out.trans (hb2.mono HB1.out.size))
    have hQ2 := HQ1.out.below hb2 (by omega)
    have hs2 := hb2.size
    have HO2 := Lib.hid hown2
    have HBB := Lib.hid hb2
    clear hb2 hown2 q0 q1 q2 q3
    have q0 : W2.cell? ⟨w.heap.size, 0, none⟩ = some (.slice A T.length cap) := hQ2.cell 0
    have q1 : W2.cell? ⟨w.heap.size, 1, none⟩ = some (.string (S nm)) := hQ2.cell 1
    have q2 : W2.cell? ⟨w.heap.size, 2, none⟩ = some (.bool d) := hQ2.cell 2
    have q3 : W2.cell? ⟨w.heap.size, 3, none⟩ = some (.int .i64 m) := hQ2.cell 3
    have HQ2 := Lib.hid hQ2
    clear hQ2 HMT
    by_cases hne : nm = []
    case' pos =>
      have hn1 : (nm == []) = true := by simpa using hne
      have HSR := Lib.hid (HNO.out hne)
      have hown3 := HO2.out
      rw [← HSR.out] at hown3
      obtain ⟨W3, rfl⟩ : ∃ W, W = W2 := ⟨_, rfl⟩
      have HB3 := HB2
      obtain ⟨v3, rfl⟩ : ∃ v, v = v2 := ⟨_, rfl⟩
      clear hne HSR
    case' neg =>
      have hn1 : (nm == []) = false := by simpa using hne
      have HC := Lib.hid (HOR.out hne _ HB1.out _ _ HBB.out HO2.out)
      go_wp2_with fail
      refine HC.out.mono ?_
      rintro r W3 ⟨v3, rfl, hown3, hb3⟩
      have HB3 := Lib.hid (HB2.out.trans (hb3.mono HB2.out.size))
      have hQ3 := HQ2.out.below hb3 (by omega)
      clear q0 q1 q2 q3 hb3 hne hn1 HC
      have q3 : W3.cell? ⟨w.heap.size, 3, none⟩ = some (.int .i64 m) := hQ3.cell 3
      clear hQ3
    all_goals
      obtain ⟨A3, cap3, rfl, hlc3, hcm3, hnil3, -, hrow3⟩ := own_rowC hown3 (s := []) (by simp) (by decide)
      have HROW3 := Lib.hid hrow3
      clear hrow3 hown3 HO2 HQ2 HQ1 HOR HNO HBB
      have h63 : cap3 ≤ 9223372036854775807 := hcm3
      obtain ⟨n, hn⟩ : ∃ n : Nat, n = R.length := ⟨_, rfl⟩
      have hnn : n = min SR.length m.toNat := by rw [hn, HRL.out, List.length_take, Nat.min_comm]
      have hmin : min (SR.length : Int) m = (n : Int) := by omega
      have hn0 : (0 : Int) ≤ (n : Int) := by omega
      have hnc : (n : Int) ≤ (cap3 : Int) := by omega
      have hfin : RowC W3 [] A3 (nvs R) := by
        have := HROW3.out.take m.toNat
        rw [nvs_take, ← HRL.out] at this
        exact this
      have HFIN := Lib.hid (And.intro hfin (And.intro hn (show n ≤ cap3 by omega)))
      clear hfin hn hnn
      go_wp2_with fail
      go_ret2
      exact ⟨HB3.out, A3, cap3, by rw [← HFIN.out.2.1]; rfl, HFIN.out.1, by rw [← HFIN.out.2.1]; exact HFIN.out.2.2⟩
  · have h1 : (ck == 0) = false := by rw [beq_eq_false_iff_ne]; exact h0
    have h2 : (ck != 0) = true := by rw [bne_iff_ne]; exact h0
    go_wp2_with fail
    go_ret2
    exact ⟨HB1.out, Or.inl ⟨h0, rfl⟩⟩
end Go.Proofs.Ytfcmkbeilpclmaa
