/-
  The reference's Same of the fourteenth layer.
-/
import Derived.Test.YtihhgingdgepcaaEvRefG
namespace Go.Proofs.Ytihhgingdgepcaa
open Go.RowKit
set_option linter.unusedVariables false

theorem ptFields : Try.prog.underlying 27 = some (.struct (Try.prog.fieldsOf 27)) := by kernel_rfl
theorem ptStood : Try.prog.stoodInHeld 27 = false := by kernel_rfl
theorem ptGuard : Try.prog.eqGuardType Try.prog.depth 27 = false := by kernel_rfl
abbrev ptv (n : Int) (r : List UInt8) : Value := .agg #[.int .i64 n, .string (S r)]
theorem run_pteq (n : Int) (r : List UInt8) (n' : Int) (r' : List UInt8) (W : World) : (binOp .eql 27 (ptv n r) (ptv n' r')).run Try.prog W = .ok (.bool (decide (n = n' ∧ r = r'))) W := by
  rw [run_eql_struct, run_equalIn_agg W 9999 _ _ _ ptFields ptStood]
  have h1 : ((S r).toList == (S r').toList) = (r == r') := by rw [S_toList, S_toList]
  simp [go_sem, Try.underlying27, Try.underlying3, Try.underlying9]
  by_cases e1 : n = n' <;> by_cases e2 : r = r' <;> simp [e1, e2]
theorem run_ptguard (op : BinOp) (o1 o2 : Operand) (n : Int) (r : List UInt8) (n' : Int) (r' : List UInt8) (W : World) : (eqGuard op 27 o1 o2 (ptv n r) (ptv n' r')).run Try.prog W = .ok () W := run_eqGuard_agg W op _ o1 o2 _ _ ptGuard

set_option maxRecDepth 100000 in
set_option maxHeartbeats 16000000 in
theorem esameV_any {w : World} {u v : Evt} {A B C D : Option Addr} {ca cb cc cd : Nat} (h1 : EntIn w [] u.ent A ca B cb) (h2 : EntIn w [] v.ent C cc D cd) :
    Calls Try.prog 13 #[u.val A ca B cb, v.val C cc D cd] w fun r w' => r = .returned (.bool (decide (u = v))) ∧ Below w.heap.size w w' := by
  obtain ⟨res, hres⟩ : ∃ r, decide (u = v) = r := ⟨_, rfl⟩
  rw [hres]
  have HE := Lib.hid hres
  clear hres
  have HS : Hid (∀ W, Below w.heap.size w W → Calls Try.prog 33 #[.agg #[.string (S u.ent.id), .int .i64 u.ent.cls, .int .i64 u.ent.born, .int .i64 u.ent.slot, .slice A u.ent.L.length ca, .bool u.ent.gone, .slice B u.ent.H.length cb], .agg #[.string (S v.ent.id), .int .i64 v.ent.cls, .int .i64 v.ent.born, .int .i64 v.ent.slot, .slice C v.ent.L.length cc, .bool v.ent.gone, .slice D v.ent.H.length cd]] W fun r w' => r = .returned (.bool (decide (u.ent = v.ent))) ∧ Below W.heap.size W w') := Lib.hid (fun W hb => esameE_any (h1.below hb) (h2.below hb))
  clear h1 h2
  unfold Evt.val
  obtain ⟨kind, ent1, seq, idx, name, size, root, now⟩ := u
  obtain ⟨kind2, ent2, seq2, idx2, name2, size2, root2, now2⟩ := v
  dsimp only at HE HS ⊢
  have HEE : Hid (kind = kind2 → seq = seq2 → idx = idx2 → name = name2 → size = size2 → root = root2 → now = now2 → res = decide (ent1 = ent2)) := Lib.hid (fun e1 e2 e3 e4 e5 e6 e7 => by
    subst e1 e2 e3 e4 e5 e6 e7
    rw [← HE.out, decide_eq_decide]
    exact ⟨fun h => by injection h, fun h => by rw [h]⟩)
  obtain ⟨sm, hsm⟩ : ∃ x, x = decide (ent1 = ent2) := ⟨_, rfl⟩
  rw [← hsm] at HEE HS
  have HNO : Hid (¬ (kind = kind2 ∧ seq = seq2 ∧ idx = idx2 ∧ name = name2 ∧ (size = size2 ∧ root = root2) ∧ now = now2) → res = false) := Lib.hid (fun h => by
    rw [← HE.out, decide_eq_false_iff_not]
    exact fun e => h (by injection e with a1 a2 a3 a4 a5 a6 a7 a8; exact ⟨a1, a3, a4, a5, ⟨a6, a7⟩, a8⟩))
  clear HE hsm
  obtain ⟨id, cls, born, slot, L, gone, H⟩ := ent1
  obtain ⟨id2, cls2, born2, slot2, L2, gone2, H2⟩ := ent2
  dsimp only at HS ⊢
  have hP := fun W => run_pteq size root size2 root2 W
  have hG := fun op o1 o2 W => run_ptguard op o1 o2 size root size2 root2 W
  by_cases cc0 : kind = kind2
  rotate_left
  · have hr : res = false := HNO.out (fun h => cc0 h.1)
    subst hr
    have hb : (kind == kind2) = false := by rw [beq_eq_false_iff_ne]; exact cc0
    clear cc0 HNO HEE HS
    go_enter Try.func13, Try.ntmps13
    go_wp2_with fail
    go_ret
    exact ⟨rfl, entPair⟩
  subst cc0
  by_cases cc0 : seq = seq2
  rotate_left
  · have hr : res = false := HNO.out (fun h => cc0 h.2.1)
    subst hr
    have hb : (seq == seq2) = false := by rw [beq_eq_false_iff_ne]; exact cc0
    clear cc0 HNO HEE HS
    go_enter Try.func13, Try.ntmps13
    go_wp2_with fail
    go_ret
    exact ⟨rfl, entPair⟩
  subst cc0
  by_cases cc0 : idx = idx2
  rotate_left
  · have hr : res = false := HNO.out (fun h => cc0 h.2.2.1)
    subst hr
    have hb : (idx == idx2) = false := by rw [beq_eq_false_iff_ne]; exact cc0
    clear cc0 HNO HEE HS
    go_enter Try.func13, Try.ntmps13
    go_wp2_with fail
    go_ret
    exact ⟨rfl, entPair⟩
  subst cc0
  by_cases cc0 : name = name2
  rotate_left
  · have hr : res = false := HNO.out (fun h => cc0 h.2.2.2.1)
    subst hr
    have hb : (name == name2) = false := by rw [beq_eq_false_iff_ne]; exact cc0
    clear cc0 HNO HEE HS
    go_enter Try.func13, Try.ntmps13
    go_wp2_with fail
    go_ret
    exact ⟨rfl, entPair⟩
  subst cc0
  by_cases cc0 : size = size2 ∧ root = root2
  rotate_left
  · have hr : res = false := HNO.out (fun h => cc0 h.2.2.2.2.1)
    subst hr
    rw [decide_eq_false cc0] at hP
    clear cc0 HNO HEE HS
    go_enter Try.func13, Try.ntmps13
    go_wp2_with fail
    go_ret
    exact ⟨rfl, entPair⟩
  rw [decide_eq_true cc0] at hP
  have HPT := Lib.hid cc0
  clear cc0
  by_cases cc0 : now = now2
  rotate_left
  · have hr : res = false := HNO.out (fun h => cc0 h.2.2.2.2.2)
    subst hr
    have hb : (now == now2) = false := by rw [beq_eq_false_iff_ne]; exact cc0
    clear cc0 HNO HEE HS
    go_enter Try.func13, Try.ntmps13
    go_wp2_with fail
    go_ret
    exact ⟨rfl, entPair⟩
  subst cc0
  have hr := HEE.out rfl rfl rfl rfl HPT.out.1 HPT.out.2 rfl
  subst hr
  clear HNO HEE HPT
  go_enter Try.func13, Try.ntmps13
  go_wp2_with fail
  refine (HS.out _ entPair).mono ?_
  rintro r w2 ⟨rfl, hb2⟩
  have HF := Lib.hid (entPair.trans (hb2.mono entPair.size))
  clear hb2
  go_wp2_with fail
  go_ret
  exact ⟨rfl, HF.out⟩
end Go.Proofs.Ytihhgingdgepcaa
