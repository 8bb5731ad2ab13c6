/-
  The contract of find's values.
-/
import Derived.Test.YtfcmkbeilpclmaaFndA
import Derived.Test.YtfcmkbeilpclmaaFndGrp
import Derived.Deep.AppendLies
import Derived.Laws.CopyOwn
import Derived.Laws.OwnMore
namespace Go.Proofs.Ytfcmkbeilpclmaa
open Go.RowKit Go.Lib
set_option linter.unusedVariables false

/-- A value's cells. -/
def Val.cl (v : Val) : List Value := [.int .i64 v.kind, .bool v.flag, .int .i64 v.int, .int .u64 (v.bits : Int), .string (S v.text)]
theorem Val.cl_len (v : Val) : v.cl.length = 5 := rfl
theorem Val.cl_one (v : Val) : ∀ u ∈ v.cl, u.oneCell' = true := by
  intro u hu
  simp only [Val.cl, List.mem_cons, List.not_mem_nil, or_false] at hu
  rcases hu with rfl | rfl | rfl | rfl | rfl <;> rfl
def vcl (L : List Val) : List Value := L.flatMap Val.cl
theorem vcl_len (L : List Val) : (vcl L).length = L.length * 5 := flat_len Val.cl 5 Val.cl_len L
theorem vcl_snoc (L : List Val) (x : Val) : vcl L ++ x.cl = vcl (L ++ [x]) := by unfold vcl; rw [List.flatMap_append, List.flatMap_singleton]
theorem valInfo : (Try.prog.info? 35).map (fun i => (i.zero, i.size, i.bytes)) = some (some (.agg #[.int .i64 0, .bool false, .int .i64 0, .int .u64 0, .string ⟨#[]⟩]), 5, 48) := by kernel_rfl
theorem madeVal (w : World) (v : Val) {T : TypeId} : ∀ (j : Nat) (u : Value), v.cl[j]? = some u → (w.alloc (.cells v.cl.toArray T)).cell? ((⟨w.heap.size, 0, none⟩ : Addr).add j) = some u := by
  intro j u hu
  rw [add_flat', Nat.zero_add, (Has.made w T v.cl.toArray).cell j]
  rw [← hu]
  exact List.getElem?_toArray ..
theorem fndGrownK {B : Nat} {w w3 w5 : World} {row : Option Nat} (h : Below B w w3) (hg : w3.grownBy w5 row) (hB : B ≤ w3.heap.size) (hr : ∀ k, row = some k → B ≤ k) : Below B w w5 :=
  ⟨hg.os.trans h.os, hg.tape.trans h.tape, hg.output.trans h.output, Nat.le_trans h.size hg.size, fun i hi => (hg.block i (Nat.lt_of_lt_of_le hi hB) (fun e => by have := hr i e.symm; omega)).trans (h.block i hi)⟩
/-- Values in a row, one of them. -/
theorem RowVal.get {w : World} {s : List Nat} {A : Option Addr} {L : List Val} (h : RowC w s A (vcl L)) (k : Nat) (hk : k < L.length) : ∃ b off, A = some ⟨b, off, none⟩ ∧ b < w.heap.size ∧ b ∉ s ∧
    w.cell? ⟨b, off + k * 5, none⟩ = some (.int .i64 (L[k]).kind) ∧ w.cell? ⟨b, off + k * 5 + 1, none⟩ = some (.bool (L[k]).flag) ∧ w.cell? ⟨b, off + k * 5 + 2, none⟩ = some (.int .i64 (L[k]).int) ∧ w.cell? ⟨b, off + k * 5 + 3, none⟩ = some (.int .u64 ((L[k]).bits : Int)) ∧ w.cell? ⟨b, off + k * 5 + 4, none⟩ = some (.string (S (L[k]).text)) := by
  obtain ⟨b, off, hA, hb, hn, hr⟩ := h (fun e => by
    have := vcl_len L
    rw [e, List.length_nil] at this
    omega)
  have hg := fun j (hj : j < 5) => flat_get Val.cl 5 Val.cl_len L k hk j hj
  refine ⟨b, off, hA, hb, hn, ?_, ?_, ?_, ?_, ?_⟩
  · exact hr (k * 5) _ ((hg 0 (by omega)).trans rfl)
  · rw [Nat.add_assoc]; exact hr (k * 5 + 1) _ ((hg 1 (by omega)).trans rfl)
  · rw [Nat.add_assoc]; exact hr (k * 5 + 2) _ ((hg 2 (by omega)).trans rfl)
  · rw [Nat.add_assoc]; exact hr (k * 5 + 3) _ ((hg 3 (by omega)).trans rfl)
  · rw [Nat.add_assoc]; exact hr (k * 5 + 4) _ ((hg 4 (by omega)).trans rfl)
theorem Fnd.vals_ok {n : List UInt8} {L : List (List Fld)} (h : ∀ P ∈ L, ∀ f ∈ P, f.ok) : ∀ v ∈ Fnd.vals n L, v.ok := by
  intro v hv
  obtain ⟨P, hP, he⟩ := List.mem_filterMap.1 hv
  exact Fnd.field_ok (h P hP) he
theorem Fnd.vals_len (n : List UInt8) (L : List (List Fld)) : (Fnd.vals n L).length ≤ L.length := List.length_filterMap_le ..
set_option maxHeartbeats 8000000 in
set_option maxRecDepth 100000 in
theorem values_any {w : World} {B : Option Addr} {capB : Nat} {L : List Ppr} (n : List UInt8) (hL : RowPp w B L) (hLl : L.length ≤ 1000000) :
    Calls Try.prog 37 #[.string (S n), .slice B L.length capB] w fun r w' => ∃ v, r = .returned v ∧ w'.ownsRow w.heap.size 35 5 v (Fnd.vals n (L.map Ppr.L)).length (vcl (Fnd.vals n (L.map Ppr.L))) ∧ Below w.heap.size w w' := by
  obtain ⟨i0, hi0, hz0, hz1, hz2⟩ := info_parts valInfo
  have HI := Lib.hid (And.intro hi0 (And.intro hz0 (And.intro hz1 hz2)))
  clear hi0 hz0 hz1 hz2
  have HL := Lib.hid hL
  clear hL
  have HE : Hid (Fnd.vals n (L.map Ppr.L) = Fnd.vals n ((L.take L.length).map Ppr.L)) := by
    show _ = _
    rw [List.take_length]
  have HST : Hid (∀ k (h : k < L.length), Fnd.vals n ((L.take (k + 1)).map Ppr.L) = Fnd.vals n ((L.take k).map Ppr.L) ++ (Fnd.field (L[k]).L n).toList) := fun k h => by
    rw [List.take_succ_eq_append_getElem h, List.map_append, List.map_singleton, Fnd.vals_snoc]
  have HLN : Hid (∀ k, (Fnd.vals n ((L.take k).map Ppr.L)).length ≤ L.length) := fun k => by
    have := Fnd.vals_len n ((L.take k).map Ppr.L)
    rw [List.length_map, List.length_take] at this
    omega
  have H0 : Hid (Fnd.vals n ((L.take 0).map Ppr.L) = []) := rfl
  obtain ⟨F, hF⟩ : ∃ F, F = fun k => Fnd.vals n ((L.take k).map Ppr.L) := ⟨_, rfl⟩
  replace HE : Hid (Fnd.vals n (L.map Ppr.L) = F L.length) := by rw [hF]; exact HE
  replace HST : Hid (∀ k (h : k < L.length), F (k + 1) = F k ++ (Fnd.field (L[k]).L n).toList) := by rw [hF]; exact HST
  replace HLN : Hid (∀ k, (F k).length ≤ L.length) := by rw [hF]; exact HLN
  replace H0 : Hid (F 0 = []) := by rw [hF]; exact H0
  clear hF
  rw [HE.out]
  clear HE
  go_enter Try.func37, Try.ntmps37
  go_wp2_with fail
  go_loopg [5, 12] L.length (fun g1 v5 v12 wr => ∃ k : Nat, k ≤ L.length ∧ v12 = .int .i64 (k : Int) ∧ L.length - k ≤ g1 ∧ wr.ownsRow w.heap.size 35 5 v5 (F k).length (vcl (F k)) ∧ Below w.heap.size w wr)
  case atStart => exact ⟨0, Nat.zero_le _, rfl, by omega, by rw [H0.out]; exact World.ownsRow_nil _ _ _ _, Below.refl _ _⟩
  case round =>
    obtain ⟨k, hk, rfl, hg, hown, hbk⟩ := hrel
    by_cases hlt : k < L.length
    · have hki : (k : Int) < (L.length : Int) := by omega
      have hki0 : (0 : Int) ≤ (k : Int) := by omega
      obtain ⟨bp, op, rfl, hbp, p0, p1, p2, hpin⟩ := RowPp.get (HL.out.below hbk) k hlt
      have hst := HST.out k hlt
      generalize L[k] = P at p0 p1 p2 hpin hst
      have hFF := fun W (h : Below wr.heap.size wr W) => ffield_any P n W (hpin.below h)
      have hfok := fun v (hv : Fnd.field P.L n = some v) => Fnd.field_ok hpin.ok hv
      obtain ⟨id, cls, PA, PL, pcap, pb⟩ := P
      dsimp only at p0 p1 p2 hst hfok
      unfold Ppr.v at hFF
      dsimp only at hFF
      have HFF : Hid (_ : Prop) := Lib.hid (hFF _ (up1 (w := wr) (.cells #[.string (S id), .int .i64 cls, .slice PA PL.length pcap] 27)))
      have HOWN := Lib.hid (hown.alloc (.cells #[.string (S id), .int .i64 cls, .slice PA PL.length pcap] 27))
      have HBK := Lib.hid (hbk.trans ((up1 (w := wr) (.cells #[.string (S id), .int .i64 cls, .slice PA PL.length pcap] 27)).mono hbk.size))
      clear hown hbk hpin hFF
      unfold Fnd.fieldV at HFF
      go_wp2_with fail
      refine HFF.out.mono ?_
      rintro r W2 ⟨rfl, hb2⟩
      have hown2 := own_mv HOWN.out (Mv.of_below hb2 []) (by simp)
      have hbk2 := HBK.out.trans (hb2.mono HBK.out.size)
      clear p0 p1 p2 HOWN HBK hb2 HFF
      cases hfd : Fnd.field PL n with
      | none =>
        rw [hfd] at hst
        have e1 : F (k + 1) = F k := by rw [hst]; simp
        have HE1 := Lib.hid e1
        clear e1 hst hfok hfd
        have hup := up1 (w := W2) (.cells #[.int .i64 0, .bool false, .int .i64 0, .int .u64 0, .string ⟨#[]⟩] 35)
        have HO := Lib.hid (And.intro (hown2.alloc (.cells #[.int .i64 0, .bool false, .int .i64 0, .int .u64 0, .string ⟨#[]⟩] 35)) (hbk2.trans (hup.mono hbk2.size)))
        clear hup hown2 hbk2
        dsimp only
        go_wp2_with fail
        go_roundg (L.length - (k + 1))
        case measure => omega
        case rel => exact ⟨k + 1, by omega, by go_num, Nat.le_refl _, by rw [HE1.out]; exact HO.out.1, HO.out.2⟩
      | some v =>
        rw [hfd] at hst
        have e1 : F (k + 1) = F k ++ [v] := hst
        have HE1 := Lib.hid e1
        have hlk := HLN.out k
        clear e1 hst hfok hfd
        obtain ⟨vk, vf, vi, vb, vt⟩ := v
        dsimp only
        rw [Val.v_eq]
        have hup := up2 (w := W2) (.cells #[.int .i64 vk, .bool vf, .int .i64 vi, .int .u64 (vb : Int), .string (S vt)] 35) (.cells #[.int .i64 vk, .bool vf, .int .i64 vi, .int .u64 (vb : Int), .string (S vt)] 35)
        have hmd := madeVal (W2.alloc (.cells #[.int .i64 vk, .bool vf, .int .i64 vi, .int .u64 (vb : Int), .string (S vt)] 35)) ⟨vk, vf, vi, vb, vt⟩ (T := 35)
        rw [asize] at hmd
        have HO := Lib.hid (And.intro ((hown2.alloc (.cells #[.int .i64 vk, .bool vf, .int .i64 vi, .int .u64 (vb : Int), .string (S vt)] 35)).alloc (.cells #[.int .i64 vk, .bool vf, .int .i64 vi, .int .u64 (vb : Int), .string (S vt)] 35)) (And.intro (hbk2.trans (hup.mono hbk2.size)) hmd))
        have hgs : w.heap.size ≤ ((W2.alloc (.cells #[.int .i64 vk, .bool vf, .int .i64 vi, .int .u64 (vb : Int), .string (S vt)] 35)).alloc (.cells #[.int .i64 vk, .bool vf, .int .i64 vi, .int .u64 (vb : Int), .string (S vt)] 35)).heap.size := by rw [asize, asize]; have := hbk2.size; omega
        clear hup hown2 hbk2 hmd
        go_wp2_with (at_builtin; refine wpList_append_own _ rfl (.tmp 23) (.tmp 25) 77 rfl w.heap.size 35 i0 (.agg #[.int .i64 0, .bool false, .int .i64 0, .int .u64 0, .string ⟨#[]⟩]) 5 48 Try.underlying77 HI.out.1 HI.out.2.1 HI.out.2.2.1 HI.out.2.2.2 rfl (by decide) u5 (F k).length (vcl (F k)) rfl HO.out.1 ⟨W2.heap.size + 1, 0, none⟩ 1 1 (Val.cl ⟨vk, vf, vi, vb, vt⟩) rfl rfl HO.out.2.2 (Val.cl_one _) (by simp only [maxLen]; omega) (by omega) hgs ?_; intro v9 w9 hown9 hg9 hnil9)
        rw [vcl_snoc, ← HE1.out] at hown9
        have hD9 := fndGrownK HO.out.2.1 hg9 hgs (fun q hq => (HO.out.1.lt q hq).1)
        have hln : (F k).length + 1 = (F (k + 1)).length := by rw [HE1.out]; simp
        rw [hln] at hown9
        go_wp2_with fail
        go_roundg (L.length - (k + 1))
        case measure => omega
        case rel => exact ⟨k + 1, by omega, by go_num, Nat.le_refl _, hown9, hD9⟩
    · obtain rfl : k = L.length := by omega
      go_wp2_with fail
      go_ret
      exact ⟨_, rfl, hown, hbk⟩
end Go.Proofs.Ytfcmkbeilpclmaa
