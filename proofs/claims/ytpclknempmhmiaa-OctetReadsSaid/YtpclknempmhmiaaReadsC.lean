/-
  The contract of OctetReads: the arguments opened.
-/
import Derived.Test.YtpclknempmhmiaaReads
import Derived.Test.YtpclknempmhmiaaLaw
import Derived.Test.YtpclknempmhmiaaRows
import Derived.Deep.Slices
namespace Go.Proofs.Ytpclknempmhmiaa
open Go.ChangeShapes Go.WideShapes Go.ChangeAt Go.RowKit
open Go.ChangeMaps (open_string shut_string)

theorem addr_plain {w : World} {a : Addr} {v : Value} (h : w.cell? a = some v) : a = ⟨a.block, a.off, none⟩ := by
  obtain ⟨b, o, s⟩ := a
  cases s with
  | none => rfl
  | some x => exfalso; unfold World.cell? at h; split at h <;> simp at h
theorem add_plain (b off i : Nat) : (⟨b, off, none⟩ : Addr).add i = ⟨b, off + i, none⟩ := by
  unfold Addr.add; split <;> simp_all

section
variable {H : Type} {enc : TypeId × Value → H} {W : World}
theorem ops_open {A : Option Addr} {len cap fuel : Nat} {x : DataW H × List MemPlace} (h : DataW.trod enc Try.prog W 0 (fun _ => true) true fuel 46 [.slice A len cap] = some x) :
    (len = 0) ∨ ∃ b off, A = some ⟨b, off, none⟩ ∧ OpsIn W b off len ∧ b < W.heap.size ∧ ∃ el sp, x.1 = .slice el sp ∧ el.length = len := by
  rcases Deep.open_slice Try.underlying46 h with ⟨h0, _⟩ | ⟨a, len', cap', m, n, D, Pl, hcs, _, hlc, _, hm, hx, hi⟩
  · left; injection h0 with h0 _; injection h0
  · injection hcs with hcs _; injection hcs with hA hlen hcap
    subst hA; subst hlen; subst hcap
    rcases Nat.eq_zero_or_pos len with h0 | hpos
    · exact Or.inl h0
    · right
      have hm' : len ≤ m := by rw [hm]; simp; omega
      have hC : Try.prog.cellsOf 52 = 3 := by kernel_rfl
      have hone : ∀ i, i < len → ∃ K N M : Int, W.cell? (a.add (i * 3)) = some (.int .i64 K) ∧ W.cell? ((a.add (i * 3)).add 1) = some (.int .i64 N) ∧ W.cell? ((a.add (i * 3)).add 2) = some (.int .i64 M) := by
        intro i hil
        obtain ⟨cs', hc, ht⟩ := hi i (by omega)
        rw [hC] at hc
        obtain ⟨_, hcl, hat⟩ := World.cells?_some hc
        obtain ⟨ys, n', hn', hy, hlen, hyl, hf⟩ := DataW.trod_struct Try.underlying52 ht
        match cs', hcl with
        | [c0, c1, c2], _ =>
          match ys, hyl with
          | [y0, y1, y2], _ =>
            have C1 : Try.prog.cellsOf 3 = 1 := by kernel_rfl
            have f0 : DataW.trod enc Try.prog W 0 (fun _ => true) true n' 3 (List.take (Try.prog.cellsOf 3) (List.drop 0 [c0, c1, c2])) = some y0 := hf 0 _ rfl
            have f1 : DataW.trod enc Try.prog W 0 (fun _ => true) true n' 3 (List.take (Try.prog.cellsOf 3) (List.drop 1 [c0, c1, c2])) = some y1 := hf 1 _ rfl
            have f2 : DataW.trod enc Try.prog W 0 (fun _ => true) true n' 3 (List.take (Try.prog.cellsOf 3) (List.drop 2 [c0, c1, c2])) = some y2 := hf 2 _ rfl
            rw [C1] at f0 f1 f2
            obtain ⟨K, e0, _, _⟩ := DataW.trod_int Try.underlying3 f0
            obtain ⟨N, e1, _, _⟩ := DataW.trod_int Try.underlying3 f1
            obtain ⟨M, e2, _, _⟩ := DataW.trod_int Try.underlying3 f2
            have g0 := hat 0 (by omega)
            have g1 := hat 1 (by omega)
            have g2 := hat 2 (by omega)
            simp at e0 e1 e2 g0 g1 g2
            subst e0; subst e1; subst e2
            exact ⟨K, N, M, by simpa [Addr.add] using g0, g1, g2⟩
      obtain ⟨K0, N0, M0, h00, _, _⟩ := hone 0 hpos
      have ha : a = ⟨a.block, a.off, none⟩ := addr_plain (by simpa [Addr.add] using h00)
      have hblt : a.block < W.heap.size := World.block_lt_of_cell? W a (by simpa [Addr.add] using h00)
      generalize a.block = b at ha hblt
      generalize a.off = off at ha
      subst ha
      refine ⟨b, off, rfl, fun i hil => ?_, hblt, _, _, by rw [hx], by simp⟩
      obtain ⟨K, N, M, k0, k1, k2⟩ := hone i hil
      rw [add_plain] at k0 k1 k2
      rw [add_plain] at k1 k2
      exact ⟨K, N, M, k0, k1, k2⟩
end

theorem octetReads_contract {H : Type} (enc : TypeId × Value → H) (W : World) (base : Nat) (args : Array Value) (ds gs : List (DataW H)) (before : List MemPlace)
    (hval : ∀ (j : Nat) t v, Try.f6.params[j]? = some t → args[j]? = some v → Value.okWide Try.prog W .any base t v)
    (hW : DataW.Whole enc Try.prog Try.f6.params.toList Rows.octetReadsSpec.vars false W args.toList ds gs before)
    (hsz : (DataW.weightsEach Try.prog (Try.f6.params.toList ++ Rows.octetReadsSpec.plain.varTypes Try.prog) (ds ++ gs)).all (· ≤ reachBytes) = true) :
    Calls Try.prog 6 args W fun e W' =>
      ((Rows.octetReadsSpec.fn H (ds ++ gs)).results = [.lit (.bool true)] ∧ (Rows.octetReadsSpec.fn H (ds ++ gs)).args = ds ∧ (Rows.octetReadsSpec.fn H (ds ++ gs)).vars = []) ∧ e = .returned (.bool true) ∧ Below W.heap.size W W' := by
  obtain ⟨p, q, hA0, hV, rfl, hfz, hnd⟩ := hW
  have hA : DataW.TrodAll enc Try.prog W 0 (fun _ => true) true Try.f6.params.toList args.toList ds p := hA0
  rw [Try.params6] at hA hval hsz
  obtain ⟨v0, v1, d0, d1, p0, p1, rfl, rfl, rfl, h0, h1⟩ := trodAll_two hA
  obtain ⟨rfl, rfl⟩ := trodVars_none hV
  obtain ⟨s, rfl, rfl, rfl, max_s⟩ := open_string Try.underlying9 (hval 0 9 v0 rfl rfl) h0
  have len_s : s.data.toList.length ≤ reachBytes := sized_string hsz (j := 0) (t := 9) rfl rfl
  obtain ⟨A, len, cap, rfl⟩ := okWide_slice Try.underlying46 (hval 1 46 v1 rfl rfl)
  obtain ⟨fuel, hf⟩ := h1
  rw [← S_of s]
  have hls : s.data.toList.length ≤ 140737488351232 := Nat.le_trans len_s (by decide)
  rcases ops_open hf with rfl | ⟨b, off, rfl, hops, hb, el, sp, hd, hel⟩
  · exact (octetReads_empty s.data.toList A cap W hls).mono fun e W' h => ⟨⟨rfl, rfl, rfl⟩, h⟩
  · have hlen : len ≤ 140737488351232 := by
      have hd' : d1 = .slice el sp := hd
      subst hd'
      have := sized_slice hsz (j := 1) (t := 46) rfl rfl Try.underlying46
      have hby : Try.prog.bytesOf 52 = 24 := by kernel_rfl
      rw [hby] at this
      have hrb : reachBytes < 2 ^ 47 := reachBytes_lt
      omega
    exact (octetReads_rounds s.data.toList b off len cap W hls hlen hops hb).mono fun e W' h => ⟨⟨rfl, rfl, rfl⟩, h⟩
end Go.Proofs.Ytpclknempmhmiaa
