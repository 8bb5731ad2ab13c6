/-
  A paper as it is kept, an event that came in, opened.
-/
import Derived.Test.YtihhgingdgepcaaRowArg
import Derived.Test.YtihhgingdgepcaaEvRefD
namespace Go.Proofs.Ytihhgingdgepcaa
open Go.ChangeShapes Go.WideShapes Go.ChangeAt Go.RowKit
open Go.ChangeMaps (open_string shut_string)
set_option linter.unusedVariables false

section
variable {H : Type} {enc : TypeId × Value → H} {W : World}
set_option maxRecDepth 100000 in
theorem ent_trod {fuel : Nat} {c0 c1 c2 c3 c4 c5 c6 : Value} {x : DataW H × List MemPlace} (hf : DataW.trod enc Try.prog W 0 (fun _ => true) true fuel 25 [c0, c1, c2, c3, c4, c5, c6] = some x) :
    ∃ (e : Ent) (A : Option Addr) (ca : Nat) (B : Option Addr) (cb : Nat), c0 = .string (S e.id) ∧ c1 = .int .i64 e.cls ∧ c2 = .int .i64 e.born ∧ c3 = .int .i64 e.slot ∧ c4 = .slice A e.L.length ca ∧ c5 = .bool e.gone ∧ c6 = .slice B e.H.length cb ∧ EntIn W [] e A ca B cb := by
  obtain ⟨ys, n', hn', hy, hlen, hyl, hf⟩ := DataW.trod_struct Try.underlying25 hf
  match ys, hyl with
  | [y0, y1, y2, y3, y4, y5, y6], _ =>
    have C0 : Try.prog.cellsOf 9 = 1 := by kernel_rfl
    have C1 : Try.prog.cellsOf 3 = 1 := by kernel_rfl
    have C4 : Try.prog.cellsOf 22 = 1 := by kernel_rfl
    have C5 : Try.prog.cellsOf 4 = 1 := by kernel_rfl
    have C6 : Try.prog.cellsOf 23 = 1 := by kernel_rfl
    have f0 : DataW.trod enc Try.prog W 0 (fun _ => true) true n' 9 (List.take (Try.prog.cellsOf 9) (List.drop 0 [c0, c1, c2, c3, c4, c5, c6])) = some y0 := hf 0 _ rfl
    have f1 : DataW.trod enc Try.prog W 0 (fun _ => true) true n' 3 (List.take (Try.prog.cellsOf 3) (List.drop 1 [c0, c1, c2, c3, c4, c5, c6])) = some y1 := hf 1 _ rfl
    have f2 : DataW.trod enc Try.prog W 0 (fun _ => true) true n' 3 (List.take (Try.prog.cellsOf 3) (List.drop 2 [c0, c1, c2, c3, c4, c5, c6])) = some y2 := hf 2 _ rfl
    have f3 : DataW.trod enc Try.prog W 0 (fun _ => true) true n' 3 (List.take (Try.prog.cellsOf 3) (List.drop 3 [c0, c1, c2, c3, c4, c5, c6])) = some y3 := hf 3 _ rfl
    have f4 : DataW.trod enc Try.prog W 0 (fun _ => true) true n' 22 (List.take (Try.prog.cellsOf 22) (List.drop 4 [c0, c1, c2, c3, c4, c5, c6])) = some y4 := hf 4 _ rfl
    have f5 : DataW.trod enc Try.prog W 0 (fun _ => true) true n' 4 (List.take (Try.prog.cellsOf 4) (List.drop 5 [c0, c1, c2, c3, c4, c5, c6])) = some y5 := hf 5 _ rfl
    have f6 : DataW.trod enc Try.prog W 0 (fun _ => true) true n' 23 (List.take (Try.prog.cellsOf 23) (List.drop 6 [c0, c1, c2, c3, c4, c5, c6])) = some y6 := hf 6 _ rfl
    rw [C0] at f0
    rw [C1] at f1 f2 f3
    rw [C4] at f4
    rw [C5] at f5
    rw [C6] at f6
    have f4' : DataW.trod enc Try.prog W 0 (fun _ => true) true n' 22 [c4] = some y4 := f4
    have f6' : DataW.trod enc Try.prog W 0 (fun _ => true) true n' 23 [c6] = some y6 := f6
    obtain ⟨T, e0, x0, _⟩ := DataW.trod_string Try.underlying9 f0
    obtain ⟨K1, e1, _, _⟩ := DataW.trod_int Try.underlying3 f1
    obtain ⟨K2, e2, _, _⟩ := DataW.trod_int Try.underlying3 f2
    obtain ⟨K3, e3, _, _⟩ := DataW.trod_int Try.underlying3 f3
    obtain ⟨G, e5, _⟩ := DataW.trod_bool Try.underlying4 f5
    simp at e0 e1 e2 e3 e5
    obtain ⟨A, len, cap, rfl⟩ : ∃ A len cap, c4 = .slice A len cap := by
      rcases Deep.open_slice Try.underlying22 f4' with ⟨h0, _⟩ | ⟨a, len', cap', m, n, D, Pl, hcs, _⟩
      · exact ⟨none, 0, 0, by injection h0⟩
      · exact ⟨some a, len', cap', by injection hcs⟩
    obtain ⟨B, len2, cap2, rfl⟩ : ∃ A len cap, c6 = .slice A len cap := by
      rcases Deep.open_slice Try.underlying23 f6' with ⟨h0, _⟩ | ⟨a, len', cap', m, n, D, Pl, hcs, _⟩
      · exact ⟨none, 0, 0, by injection h0⟩
      · exact ⟨some a, len', cap', by injection hcs⟩
    obtain ⟨L, rfl, hlc, hcm, hR⟩ := slips_open f4'
    obtain ⟨M, rfl, hlc2, hcm2, hR2⟩ := tvs_open f6'
    exact ⟨⟨T.data.toList, K1, K2, K3, L, G, M⟩, A, cap, B, cap2, by rw [e0, S_of], e1, e2, e3, rfl, e5, rfl, hR, hR2, hlc, hcm, hlc2, hcm2⟩
set_option maxRecDepth 100000 in
theorem pt_trod {fuel : Nat} {c0 c1 : Value} {x : DataW H × List MemPlace} (hf : DataW.trod enc Try.prog W 0 (fun _ => true) true fuel 27 [c0, c1] = some x) :
    ∃ (n : Int) (s : List UInt8), c0 = .int .i64 n ∧ c1 = .string (S s) := by
  obtain ⟨ys, n', hn', hy, hlen, hyl, hf⟩ := DataW.trod_struct Try.underlying27 hf
  match ys, hyl with
  | [y0, y1], _ =>
    have C0 : Try.prog.cellsOf 9 = 1 := by kernel_rfl
    have C1 : Try.prog.cellsOf 3 = 1 := by kernel_rfl
    have f0 : DataW.trod enc Try.prog W 0 (fun _ => true) true n' 3 (List.take (Try.prog.cellsOf 3) (List.drop 0 [c0, c1])) = some y0 := hf 0 _ rfl
    have f1 : DataW.trod enc Try.prog W 0 (fun _ => true) true n' 9 (List.take (Try.prog.cellsOf 9) (List.drop 1 [c0, c1])) = some y1 := hf 1 _ rfl
    rw [C1] at f0
    rw [C0] at f1
    obtain ⟨K, e0, _, _⟩ := DataW.trod_int Try.underlying3 f0
    obtain ⟨T, e1, _, _⟩ := DataW.trod_string Try.underlying9 f1
    simp at e0 e1
    exact ⟨K, T.data.toList, e0, by rw [e1, S_of]⟩
set_option maxRecDepth 100000 in
/-- An event that came in. -/
theorem event_open {r : Reach} {b0 : Nat} {v : Value} {d : DataW H} {p : List MemPlace}
    (hv : Value.okWide Try.prog W r b0 29 v) (h : DataW.Trod enc Try.prog W 0 (fun _ => true) true 29 v d p) :
    ∃ (x : Evt) (A : Option Addr) (ca : Nat) (B : Option Addr) (cb : Nat), v = x.val A ca B cb ∧ EntIn W [] x.ent A ca B cb := by
  obtain ⟨cs, rfl, hsz⟩ := okWide_struct Try.underlying29 hv
  have hC : Try.prog.cellsOf 29 = 14 := by kernel_rfl
  rw [hC] at hsz
  obtain ⟨cl⟩ := cs
  match cl, hsz with
  | [c0, c1, c2, c3, c4, c5, c6, c7, c8, c9, c10, c11, c12, c13], _ =>
  obtain ⟨fuel, hf⟩ := h
  have hcell : (Value.agg #[c0, c1, c2, c3, c4, c5, c6, c7, c8, c9, c10, c11, c12, c13]).cells.toList = [c0, c1, c2, c3, c4, c5, c6, c7, c8, c9, c10, c11, c12, c13] := rfl
  rw [hcell] at hf
  obtain ⟨ys, n', hn', hy, hlen, hyl, hf⟩ := DataW.trod_struct Try.underlying29 hf
  match ys, hyl with
  | [y0, y1, y2, y3, y4, y5, y6], _ =>
    have C0 : Try.prog.cellsOf 3 = 1 := by kernel_rfl
    have C1 : Try.prog.cellsOf 25 = 7 := by kernel_rfl
    have C4 : Try.prog.cellsOf 9 = 1 := by kernel_rfl
    have C5 : Try.prog.cellsOf 27 = 2 := by kernel_rfl
    have f0 : DataW.trod enc Try.prog W 0 (fun _ => true) true n' 3 (List.take (Try.prog.cellsOf 3) (List.drop 0 [c0, c1, c2, c3, c4, c5, c6, c7, c8, c9, c10, c11, c12, c13])) = some y0 := hf 0 _ rfl
    have f1 : DataW.trod enc Try.prog W 0 (fun _ => true) true n' 25 (List.take (Try.prog.cellsOf 25) (List.drop 1 [c0, c1, c2, c3, c4, c5, c6, c7, c8, c9, c10, c11, c12, c13])) = some y1 := hf 1 _ rfl
    have f2 : DataW.trod enc Try.prog W 0 (fun _ => true) true n' 3 (List.take (Try.prog.cellsOf 3) (List.drop 8 [c0, c1, c2, c3, c4, c5, c6, c7, c8, c9, c10, c11, c12, c13])) = some y2 := hf 2 _ rfl
    have f3 : DataW.trod enc Try.prog W 0 (fun _ => true) true n' 3 (List.take (Try.prog.cellsOf 3) (List.drop 9 [c0, c1, c2, c3, c4, c5, c6, c7, c8, c9, c10, c11, c12, c13])) = some y3 := hf 3 _ rfl
    have f4 : DataW.trod enc Try.prog W 0 (fun _ => true) true n' 9 (List.take (Try.prog.cellsOf 9) (List.drop 10 [c0, c1, c2, c3, c4, c5, c6, c7, c8, c9, c10, c11, c12, c13])) = some y4 := hf 4 _ rfl
    have f5 : DataW.trod enc Try.prog W 0 (fun _ => true) true n' 27 (List.take (Try.prog.cellsOf 27) (List.drop 11 [c0, c1, c2, c3, c4, c5, c6, c7, c8, c9, c10, c11, c12, c13])) = some y5 := hf 5 _ rfl
    have f6 : DataW.trod enc Try.prog W 0 (fun _ => true) true n' 3 (List.take (Try.prog.cellsOf 3) (List.drop 13 [c0, c1, c2, c3, c4, c5, c6, c7, c8, c9, c10, c11, c12, c13])) = some y6 := hf 6 _ rfl
    rw [C0] at f0 f2 f3 f6
    rw [C1] at f1
    rw [C4] at f4
    rw [C5] at f5
    obtain ⟨K0, e0, _, _⟩ := DataW.trod_int Try.underlying3 f0
    obtain ⟨e, A, ca, B, cb, q0, q1, q2, q3, q4, q5, q6, hin⟩ := ent_trod f1
    obtain ⟨K2, e2, _, _⟩ := DataW.trod_int Try.underlying3 f2
    obtain ⟨K3, e3, _, _⟩ := DataW.trod_int Try.underlying3 f3
    obtain ⟨T, e4, _, _⟩ := DataW.trod_string Try.underlying9 f4
    obtain ⟨n, s, e5, e5'⟩ := pt_trod f5
    obtain ⟨K6, e6, _, _⟩ := DataW.trod_int Try.underlying3 f6
    simp at e0 e2 e3 e4 e6
    exact ⟨⟨K0, e, K2, K3, T.data.toList, n, s, K6⟩, A, ca, B, cb, by
      unfold Evt.val
      rw [e0, q0, q1, q2, q3, q4, q5, q6, e2, e3, e4, e5, e5', e6, S_of], hin⟩
end
end Go.Proofs.Ytihhgingdgepcaa
