/-
  Event's Bytes.
-/
import Derived.Test.YtihhgingdgepcaaEvC
import Derived.Test.YtihhgingdgepcaaEvW
import Derived.Test.YtihhgingdgepcaaWriteAll
namespace Go.Proofs.Ytihhgingdgepcaa
open Go.RowKit
set_option linter.unusedVariables false

set_option maxRecDepth 100000 in
set_option maxHeartbeats 16000000 in
theorem bytesV_any {w : World} {v : Evt} {A B : Option Addr} {ca cb : Nat} (hin : EntIn w [] v.ent A ca B cb) (hf : EvtFew v) :
    Calls Try.prog 8 #[v.val A ca B cb] w fun r w' => r = .returned (.string (S (Ev.bytes v))) ∧ Below w.heap.size w w' := by
  have hR := fun (W : World) (hb : Below w.heap.size w W) => rightV_any (v := v) (EntIn.at hin hb (s := []) (fun x hx => by cases hx)) hf
  have hE := fun (W : World) (g : Nat) (st : Wt.St) (hb : Below w.heap.size w W) (hg : w.heap.size ≤ g) (h : Wr W g st) (hx : Ev.entR v.ent = true) (hc : (Wt.flat st).length ≤ 100000) => wentry_any v.ent A B ca cb g st W h (EntIn.at hin hb (s := [g]) (fun x hx => by rw [List.mem_singleton.1 hx]; exact hg)) hx hc
  unfold Evt.val at *
  have hh := Has.made w 29 #[.int .i64 v.kind, .string (S v.ent.id), .int .i64 v.ent.cls, .int .i64 v.ent.born, .int .i64 v.ent.slot, .slice A v.ent.L.length ca, .bool v.ent.gone, .slice B v.ent.H.length cb, .int .i64 v.seq, .int .i64 v.idx, .string (S v.name), .int .i64 v.size, .string (S v.root), .int .i64 v.now]
  have HB : Hid (Below w.heap.size w (w.alloc (.cells #[.int .i64 v.kind, .string (S v.ent.id), .int .i64 v.ent.cls, .int .i64 v.ent.born, .int .i64 v.ent.slot, .slice A v.ent.L.length ca, .bool v.ent.gone, .slice B v.ent.H.length cb, .int .i64 v.seq, .int .i64 v.idx, .string (S v.name), .int .i64 v.size, .string (S v.root), .int .i64 v.now] 29))) := Lib.hid ((Below.refl _ w).alloc (Nat.le_refl _) _)
  have hsz : w.heap.size < (w.alloc (.cells #[.int .i64 v.kind, .string (S v.ent.id), .int .i64 v.ent.cls, .int .i64 v.ent.born, .int .i64 v.ent.slot, .slice A v.ent.L.length ca, .bool v.ent.gone, .slice B v.ent.H.length cb, .int .i64 v.seq, .int .i64 v.idx, .string (S v.name), .int .i64 v.size, .string (S v.root), .int .i64 v.now] 29)).heap.size := by rw [asize]; omega
  have HR := Lib.hid hR
  have HE := Lib.hid hE
  have k1 := Lib.hid (fun h => Ev.right1 (v := v) h)
  have k2 := Lib.hid (fun h => Ev.right2 (v := v) h)
  have k3 := Lib.hid (fun h => Ev.right3 (v := v) h)
  have k4 := Lib.hid (fun h => Ev.right4 (v := v) h)
  have k6 := Lib.hid (fun h => Ev.right6 (v := v) h)
  have k7 := Lib.hid (fun h => Ev.right7 (v := v) h)
  have hkinds := Ev.kinds v
  have hk0 : Ev.right v = true → 1 ≤ v.kind ∧ v.kind ≤ 7 := fun h => Ev.right_kind h
  have n1 := Lib.hid (fun h => Ev.enc1 (v := v) h)
  have n2 := Lib.hid (fun h => Ev.enc2 (v := v) h)
  have n3 := Lib.hid (fun h => Ev.enc3 (v := v) h)
  have n4 := Lib.hid (fun h => Ev.enc4 (v := v) h)
  have n6 := Lib.hid (fun h => Ev.enc6 (v := v) h)
  have n7 := Lib.hid (fun h => Ev.enc7 (v := v) h)
  have HBY : Hid (Ev.bytes v = if Ev.right v = true then Ev.enc v else []) := Lib.hid rfl
  have hEL := fun h => Ev.enc_len (v := v) h
  clear hin hf hR hE
  obtain ⟨kind, ⟨id, cls, born, slot, L, gone, H⟩, seq, idx, name, size, root, now⟩ := v
  dsimp only at *
  generalize Ev.bytes ⟨kind, ⟨id, cls, born, slot, L, gone, H⟩, seq, idx, name, size, root, now⟩ = RES at *
  generalize Ev.right ⟨kind, ⟨id, cls, born, slot, L, gone, H⟩, seq, idx, name, size, root, now⟩ = RR at *
  generalize Ev.enc ⟨kind, ⟨id, cls, born, slot, L, gone, H⟩, seq, idx, name, size, root, now⟩ = EE at *
  generalize Ev.entR ⟨id, cls, born, slot, L, gone, H⟩ = ER at *
  generalize Ev.encE ⟨id, cls, born, slot, L, gone, H⟩ = pE at *
  go_enter Try.func8, Try.ntmps8
  go_upto_region 1 with fail
  generalize w.alloc (.cells #[.int .i64 kind, .string (S id), .int .i64 cls, .int .i64 born, .int .i64 slot, .slice A L.length ca, .bool gone, .slice B H.length cb, .int .i64 seq, .int .i64 idx, .string (S name), .int .i64 size, .string (S root), .int .i64 now] 29) = W0 at HB hh hsz ⊢
  obtain ⟨b0, hb0⟩ : ∃ b0, w.heap.size = b0 := ⟨_, rfl⟩
  rw [hb0] at hh hsz ⊢
  have HH := Lib.hid hh
  have HB0 := Lib.hid hb0
  have y0 : W0.cell? ⟨b0, 0, none⟩ = some (.int .i64 kind) := hh.cell 0
  have y1 : W0.cell? ⟨b0, 1, none⟩ = some (.string (S id)) := hh.cell 1
  have y2 : W0.cell? ⟨b0, 2, none⟩ = some (.int .i64 cls) := hh.cell 2
  have y3 : W0.cell? ⟨b0, 3, none⟩ = some (.int .i64 born) := hh.cell 3
  have y4 : W0.cell? ⟨b0, 4, none⟩ = some (.int .i64 slot) := hh.cell 4
  have y5 : W0.cell? ⟨b0, 5, none⟩ = some (.slice A L.length ca) := hh.cell 5
  have y6 : W0.cell? ⟨b0, 6, none⟩ = some (.bool gone) := hh.cell 6
  have y7 : W0.cell? ⟨b0, 7, none⟩ = some (.slice B H.length cb) := hh.cell 7
  have y8 : W0.cell? ⟨b0, 8, none⟩ = some (.int .i64 seq) := hh.cell 8
  have y9 : W0.cell? ⟨b0, 9, none⟩ = some (.int .i64 idx) := hh.cell 9
  have y10 : W0.cell? ⟨b0, 10, none⟩ = some (.string (S name)) := hh.cell 10
  have y11 : W0.cell? ⟨b0, 11, none⟩ = some (.int .i64 size) := hh.cell 11
  have y12 : W0.cell? ⟨b0, 12, none⟩ = some (.string (S root)) := hh.cell 12
  have y13 : W0.cell? ⟨b0, 13, none⟩ = some (.int .i64 now) := hh.cell 13
  clear hh
  go_wp2_with fail
  refine (HR.out _ HB.out).mono ?_
  rintro r w1 ⟨rfl, hb1⟩
  have HH1 := Lib.hid (HH.out.below hb1 hsz)
  have HB1 := Lib.hid (HB.out.trans (hb1.mono HB.out.size))
  have hsz1 : b0 < w1.heap.size := Nat.lt_of_lt_of_le hsz hb1.size
  clear hb1 y0 y1 y2 y3 y4 y5 y6 y7 y8 y9 y10 y11 y12 y13 HH HR HB hsz
  cases RR with
  | false =>
    obtain rfl : RES = [] := HBY.out
    go_wp2_with fail
    go_ret
    exact ⟨rfl, HB1.out⟩
  | true =>
    obtain rfl : RES = EE := HBY.out
    have hk := hk0 rfl
    have hel := hEL rfl
    go_upto_region 4 with fail
    have hwr : Wr (w1.alloc (.cells #[.pointer none, .int .i64 0, .bool false] 43)) w1.heap.size ([], false) := ⟨none, Has.made _ _ _, rfl⟩
    have hbw := (Below.refl _ w1).alloc (Nat.le_refl _) (.cells #[.pointer none, .int .i64 0, .bool false] 43)
    have HB2 := Lib.hid (HB1.out.trans (hbw.mono HB1.out.size))
    have HH2 := Lib.hid (HH1.out.below hbw hsz1)
    have hg : w.heap.size ≤ w1.heap.size := HB1.out.size
    have hsz2 : w1.heap.size < (w1.alloc (.cells #[.pointer none, .int .i64 0, .bool false] 43)).heap.size := by rw [asize]; omega
    clear hbw HB1 HH1
    generalize w1.alloc (.cells #[.pointer none, .int .i64 0, .bool false] 43) = W2 at *
    generalize w1.heap.size = g at *
    have hne : b0 ≠ g := by omega
    have HG := Lib.hid hg
    have HK := Lib.hid (wnum_p kind g ([], false) W2 hwr (by omega) (by omega) (by decide))
    have hpk : (M.encL kind).length ≤ 8 := Ev.encL_len (by omega)
    generalize M.encL kind = pk at *
    clear hwr hg hk0 hEL hsz1
    have y0 : W2.cell? ⟨b0, 0, none⟩ = some (.int .i64 kind) := HH2.out.cell 0
    go_wp2_with fail
    refine HK.out.mono ?_
    rintro r w3 ⟨rfl, st, hw3, f, nn, b, o⟩
    have HH3 := Lib.hid (o.has HH2.out hne)
    have HB3 := Lib.hid (o.below HB2.out (Nat.le_trans HG.out (Nat.le_of_lt hsz2)) HG.out)
    have hsz3 : g < w3.heap.size := Nat.lt_of_lt_of_le hsz2 o.size
    have F3 : Hid (Wt.flat st = pk ∧ st.2 = false) := Lib.hid ⟨by rw [f]; rfl, b⟩
    have hn3 : (Wt.flat st).length ≤ 8 := by rw [F3.out.1]; exact hpk
    clear f nn b o HK HH2 HB2 hsz2 y0 hpk
    have y0 : w3.cell? ⟨b0, 0, none⟩ = some (.int .i64 kind) := HH3.out.cell 0
    clear y0
    rcases hkinds with h | h | h | h | h | h | h
    · subst h
      have HER := Lib.hid (k1.out rfl).symm
      have HEN := Lib.hid (n1.out rfl)
      clear k1 k2 k3 k4 k6 k7 n1 n2 n3 n4 n6 n7
      have y0 : w3.cell? ⟨b0, 0, none⟩ = some (.int .i64 1) := HH3.out.cell 0
      have c1 : w3.cell? ⟨b0, 1, none⟩ = some (.string (S id)) := HH3.out.cell 1
      have c2 : w3.cell? ⟨b0, 2, none⟩ = some (.int .i64 cls) := HH3.out.cell 2
      have c3 : w3.cell? ⟨b0, 3, none⟩ = some (.int .i64 born) := HH3.out.cell 3
      have c4 : w3.cell? ⟨b0, 4, none⟩ = some (.int .i64 slot) := HH3.out.cell 4
      have c5 : w3.cell? ⟨b0, 5, none⟩ = some (.slice A L.length ca) := HH3.out.cell 5
      have c6 : w3.cell? ⟨b0, 6, none⟩ = some (.bool gone) := HH3.out.cell 6
      have c7 : w3.cell? ⟨b0, 7, none⟩ = some (.slice B H.length cb) := HH3.out.cell 7
      go_wp2_with fail
      refine (HE.out _ _ _ HB3.out HG.out hw3 HER.out (by omega)).mono ?_
      rintro r w4 ⟨rfl, st4, hw4, f, nn, b, o⟩
      have HB4 := Lib.hid (o.below HB3.out (Nat.le_trans HG.out (Nat.le_of_lt hsz3)) HG.out)
      have F4 : Hid (Wt.flat st4 = pk ++ pE ∧ st4.2 = false) := Lib.hid ⟨by rw [f, F3.out.1], by rw [b, F3.out.2]⟩
      clear f b o y0 c1 c2 c3 c4 c5 c6 c7 HH3 HB3 hsz3
      have hEE : Wt.flat st4 = RES := by rw [F4.out.1, HEN.out]
      have HA := Lib.hid (all_good g st4 w4 hw4 F4.out.2 (by rw [hEE]; omega))
      rw [hEE] at HA
      clear hEE
      go_wp2_with fail
      refine HA.out.mono ?_
      rintro r w9 ⟨rfl, hb9⟩
      go_wp2_with fail
      go_ret
      exact ⟨rfl, HB4.out.trans (hb9.mono HB4.out.size)⟩
    · subst h
      have hr := (k2.out rfl).symm
      have HEN := Lib.hid (n2.out rfl)
      rw [Bool.and_eq_true, Ev.rng_iff, Ev.rng_iff] at hr
      obtain ⟨⟨r1, r2⟩, r3, r4⟩ := hr
      have l1 : (M.encL seq).length ≤ 8 := Ev.encL_len (by omega)
      have HS := Lib.hid (fun W st (hW : Wr W g st) (hc : (Wt.flat st).length ≤ 1000000000) => wnum_p seq g st W hW r1 (by omega) hc)
      have HX := Lib.hid (fun W st (hW : Wr W g st) (hc : (Wt.flat st).length ≤ 1000000000) => wnum_p idx g st W hW r3 (by omega) hc)
      clear r1 r2 r3 r4
      generalize M.encL seq = ps at *
      generalize M.encL idx = pi at *
      clear k1 k2 k3 k4 k6 k7 n1 n2 n3 n4 n6 n7 HE
      have y0 : w3.cell? ⟨b0, 0, none⟩ = some (.int .i64 2) := HH3.out.cell 0
      have y : w3.cell? ⟨b0, 8, none⟩ = some (.int .i64 seq) := HH3.out.cell 8
      go_wp2_with fail
      refine (HS.out _ _ hw3 (by omega)).mono ?_
      rintro r w4 ⟨rfl, st4, hw4, f, nn, b, o⟩
      have HH4 := Lib.hid (o.has HH3.out hne)
      have HB4 := Lib.hid (o.below HB3.out (Nat.le_trans HG.out (Nat.le_of_lt hsz3)) HG.out)
      have hsz4 : g < w4.heap.size := Nat.lt_of_lt_of_le hsz3 o.size
      have F4 : Hid (Wt.flat st4 = pk ++ ps ∧ st4.2 = false) := Lib.hid ⟨by rw [f, F3.out.1], by rw [b, F3.out.2]⟩
      clear f b o y HH3 HB3 hsz3
      clear y0
      have y : w4.cell? ⟨b0, 9, none⟩ = some (.int .i64 idx) := HH4.out.cell 9
      go_wp2_with fail
      refine (HX.out _ _ hw4 (by omega)).mono ?_
      rintro r w5 ⟨rfl, st5, hw5, f, nn, b, o⟩
      have HH5 := Lib.hid (o.has HH4.out hne)
      have HB5 := Lib.hid (o.below HB4.out (Nat.le_trans HG.out (Nat.le_of_lt hsz4)) HG.out)
      have hsz5 : g < w5.heap.size := Nat.lt_of_lt_of_le hsz4 o.size
      have F5 : Hid (Wt.flat st5 = pk ++ ps ++ pi ∧ st5.2 = false) := Lib.hid ⟨by rw [f, F4.out.1], by rw [b, F4.out.2]⟩
      clear f b o y HH4 HB4 hsz4
      rw [← List.append_assoc] at HEN
      have hEE : Wt.flat st5 = RES := by rw [F5.out.1, HEN.out]
      have HA := Lib.hid (all_good g st5 w5 hw5 F5.out.2 (by rw [hEE]; omega))
      rw [hEE] at HA
      clear hEE
      go_wp2_with fail
      refine HA.out.mono ?_
      rintro r w9 ⟨rfl, hb9⟩
      go_wp2_with fail
      go_ret
      exact ⟨rfl, HB5.out.trans (hb9.mono HB5.out.size)⟩
    · subst h
      have hr := (k3.out rfl).symm
      have HEN := Lib.hid (n3.out rfl)
      rw [Ev.rng_iff] at hr
      have l1 : (M.encL seq).length ≤ 8 := Ev.encL_len (by omega)
      have HS := Lib.hid (fun W st (hW : Wr W g st) (hc : (Wt.flat st).length ≤ 1000000000) => wnum_p seq g st W hW hr.1 (by omega) hc)
      clear hr
      generalize M.encL seq = ps at *
      clear k1 k2 k3 k4 k6 k7 n1 n2 n3 n4 n6 n7 HE
      have y0 : w3.cell? ⟨b0, 0, none⟩ = some (.int .i64 3) := HH3.out.cell 0
      have y : w3.cell? ⟨b0, 8, none⟩ = some (.int .i64 seq) := HH3.out.cell 8
      go_wp2_with fail
      refine (HS.out _ _ hw3 (by omega)).mono ?_
      rintro r w4 ⟨rfl, st4, hw4, f, nn, b, o⟩
      have HH4 := Lib.hid (o.has HH3.out hne)
      have HB4 := Lib.hid (o.below HB3.out (Nat.le_trans HG.out (Nat.le_of_lt hsz3)) HG.out)
      have hsz4 : g < w4.heap.size := Nat.lt_of_lt_of_le hsz3 o.size
      have F4 : Hid (Wt.flat st4 = pk ++ ps ∧ st4.2 = false) := Lib.hid ⟨by rw [f, F3.out.1], by rw [b, F3.out.2]⟩
      clear f b o y HH3 HB3 hsz3
      clear y0
      have hEE : Wt.flat st4 = RES := by rw [F4.out.1, HEN.out]
      have HA := Lib.hid (all_good g st4 w4 hw4 F4.out.2 (by rw [hEE]; omega))
      rw [hEE] at HA
      clear hEE
      go_wp2_with fail
      refine HA.out.mono ?_
      rintro r w9 ⟨rfl, hb9⟩
      go_wp2_with fail
      go_ret
      exact ⟨rfl, HB4.out.trans (hb9.mono HB4.out.size)⟩
    · have hr := (k4.out h).symm
      have HEN := Lib.hid (n4.out h)
      rw [Bool.and_eq_true, Ev.rng_iff] at hr
      obtain ⟨⟨r1, r2⟩, r3⟩ := hr
      have l1 : (M.encL seq).length ≤ 8 := Ev.encL_len (by omega)
      have HS := Lib.hid (fun W st (hW : Wr W g st) (hc : (Wt.flat st).length ≤ 1000000000) => wnum_p seq g st W hW r1 (by omega) hc)
      have HX := Lib.hid (fun W st (hW : Wr W g st) (hc : (Wt.flat st).length ≤ 1000000000) => wtext_p name g st W hW (by have := (Pap.word_len r3).2; omega) hc)
      clear r1 r2 r3
      generalize M.encL seq = ps at *
      generalize Ev.txt name = pi at *
      clear k1 k2 k3 k4 k6 k7 n1 n2 n3 n4 n6 n7 HE
      rw [← List.append_assoc] at HEN
      rcases h with rfl | rfl
      · have y0 : w3.cell? ⟨b0, 0, none⟩ = some (.int .i64 4) := HH3.out.cell 0
        have y : w3.cell? ⟨b0, 8, none⟩ = some (.int .i64 seq) := HH3.out.cell 8
        go_wp2_with fail
        refine (HS.out _ _ hw3 (by omega)).mono ?_
        rintro r w4 ⟨rfl, st4, hw4, f, nn, b, o⟩
        have HH4 := Lib.hid (o.has HH3.out hne)
        have HB4 := Lib.hid (o.below HB3.out (Nat.le_trans HG.out (Nat.le_of_lt hsz3)) HG.out)
        have hsz4 : g < w4.heap.size := Nat.lt_of_lt_of_le hsz3 o.size
        have F4 : Hid (Wt.flat st4 = pk ++ ps ∧ st4.2 = false) := Lib.hid ⟨by rw [f, F3.out.1], by rw [b, F3.out.2]⟩
        clear f b o y HH3 HB3 hsz3
        clear y0
        have y : w4.cell? ⟨b0, 10, none⟩ = some (.string (S name)) := HH4.out.cell 10
        go_wp2_with fail
        refine (HX.out _ _ hw4 (by omega)).mono ?_
        rintro r w5 ⟨rfl, st5, hw5, f, nn, b, o⟩
        have HH5 := Lib.hid (o.has HH4.out hne)
        have HB5 := Lib.hid (o.below HB4.out (Nat.le_trans HG.out (Nat.le_of_lt hsz4)) HG.out)
        have hsz5 : g < w5.heap.size := Nat.lt_of_lt_of_le hsz4 o.size
        have F5 : Hid (Wt.flat st5 = pk ++ ps ++ pi ∧ st5.2 = false) := Lib.hid ⟨by rw [f, F4.out.1], by rw [b, F4.out.2]⟩
        clear f b o y HH4 HB4 hsz4
        have hEE : Wt.flat st5 = RES := by rw [F5.out.1, HEN.out]
        have HA := Lib.hid (all_good g st5 w5 hw5 F5.out.2 (by rw [hEE]; omega))
        rw [hEE] at HA
        clear hEE
        go_wp2_with fail
        refine HA.out.mono ?_
        rintro r w9 ⟨rfl, hb9⟩
        go_wp2_with fail
        go_ret
        exact ⟨rfl, HB5.out.trans (hb9.mono HB5.out.size)⟩
      · have y0 : w3.cell? ⟨b0, 0, none⟩ = some (.int .i64 5) := HH3.out.cell 0
        have y : w3.cell? ⟨b0, 8, none⟩ = some (.int .i64 seq) := HH3.out.cell 8
        go_wp2_with fail
        refine (HS.out _ _ hw3 (by omega)).mono ?_
        rintro r w4 ⟨rfl, st4, hw4, f, nn, b, o⟩
        have HH4 := Lib.hid (o.has HH3.out hne)
        have HB4 := Lib.hid (o.below HB3.out (Nat.le_trans HG.out (Nat.le_of_lt hsz3)) HG.out)
        have hsz4 : g < w4.heap.size := Nat.lt_of_lt_of_le hsz3 o.size
        have F4 : Hid (Wt.flat st4 = pk ++ ps ∧ st4.2 = false) := Lib.hid ⟨by rw [f, F3.out.1], by rw [b, F3.out.2]⟩
        clear f b o y HH3 HB3 hsz3
        clear y0
        have y : w4.cell? ⟨b0, 10, none⟩ = some (.string (S name)) := HH4.out.cell 10
        go_wp2_with fail
        refine (HX.out _ _ hw4 (by omega)).mono ?_
        rintro r w5 ⟨rfl, st5, hw5, f, nn, b, o⟩
        have HH5 := Lib.hid (o.has HH4.out hne)
        have HB5 := Lib.hid (o.below HB4.out (Nat.le_trans HG.out (Nat.le_of_lt hsz4)) HG.out)
        have hsz5 : g < w5.heap.size := Nat.lt_of_lt_of_le hsz4 o.size
        have F5 : Hid (Wt.flat st5 = pk ++ ps ++ pi ∧ st5.2 = false) := Lib.hid ⟨by rw [f, F4.out.1], by rw [b, F4.out.2]⟩
        clear f b o y HH4 HB4 hsz4
        have hEE : Wt.flat st5 = RES := by rw [F5.out.1, HEN.out]
        have HA := Lib.hid (all_good g st5 w5 hw5 F5.out.2 (by rw [hEE]; omega))
        rw [hEE] at HA
        clear hEE
        go_wp2_with fail
        refine HA.out.mono ?_
        rintro r w9 ⟨rfl, hb9⟩
        go_wp2_with fail
        go_ret
        exact ⟨rfl, HB5.out.trans (hb9.mono HB5.out.size)⟩
    · subst h
      have hr := (k6.out rfl).symm
      have HEN := Lib.hid (n6.out rfl)
      rw [Bool.and_eq_true, Ev.rng_iff, decide_eq_true_iff] at hr
      obtain ⟨⟨r1, r2⟩, r3⟩ := hr
      have l1 : (M.encL size).length ≤ 8 := Ev.encL_len (by omega)
      have HS := Lib.hid (fun W st (hW : Wr W g st) (hc : (Wt.flat st).length ≤ 1000000000) => wnum_p size g st W hW r1 (by omega) hc)
      have HX := Lib.hid (fun W st (hW : Wr W g st) (hc : (Wt.flat st).length ≤ 1000000000) => wtext_p root g st W hW (by omega) hc)
      clear r1 r2 r3
      generalize M.encL size = ps at *
      generalize Ev.txt root = pi at *
      clear k1 k2 k3 k4 k6 k7 n1 n2 n3 n4 n6 n7 HE
      have y0 : w3.cell? ⟨b0, 0, none⟩ = some (.int .i64 6) := HH3.out.cell 0
      have y : w3.cell? ⟨b0, 11, none⟩ = some (.int .i64 size) := HH3.out.cell 11
      go_wp2_with fail
      refine (HS.out _ _ hw3 (by omega)).mono ?_
      rintro r w4 ⟨rfl, st4, hw4, f, nn, b, o⟩
      have HH4 := Lib.hid (o.has HH3.out hne)
      have HB4 := Lib.hid (o.below HB3.out (Nat.le_trans HG.out (Nat.le_of_lt hsz3)) HG.out)
      have hsz4 : g < w4.heap.size := Nat.lt_of_lt_of_le hsz3 o.size
      have F4 : Hid (Wt.flat st4 = pk ++ ps ∧ st4.2 = false) := Lib.hid ⟨by rw [f, F3.out.1], by rw [b, F3.out.2]⟩
      clear f b o y HH3 HB3 hsz3
      clear y0
      have y : w4.cell? ⟨b0, 12, none⟩ = some (.string (S root)) := HH4.out.cell 12
      go_wp2_with fail
      refine (HX.out _ _ hw4 (by omega)).mono ?_
      rintro r w5 ⟨rfl, st5, hw5, f, nn, b, o⟩
      have HH5 := Lib.hid (o.has HH4.out hne)
      have HB5 := Lib.hid (o.below HB4.out (Nat.le_trans HG.out (Nat.le_of_lt hsz4)) HG.out)
      have hsz5 : g < w5.heap.size := Nat.lt_of_lt_of_le hsz4 o.size
      have F5 : Hid (Wt.flat st5 = pk ++ ps ++ pi ∧ st5.2 = false) := Lib.hid ⟨by rw [f, F4.out.1], by rw [b, F4.out.2]⟩
      clear f b o y HH4 HB4 hsz4
      rw [← List.append_assoc] at HEN
      have hEE : Wt.flat st5 = RES := by rw [F5.out.1, HEN.out]
      have HA := Lib.hid (all_good g st5 w5 hw5 F5.out.2 (by rw [hEE]; omega))
      rw [hEE] at HA
      clear hEE
      go_wp2_with fail
      refine HA.out.mono ?_
      rintro r w9 ⟨rfl, hb9⟩
      go_wp2_with fail
      go_ret
      exact ⟨rfl, HB5.out.trans (hb9.mono HB5.out.size)⟩
    · subst h
      have hr := (k7.out rfl).symm
      have HEN := Lib.hid (n7.out rfl)
      rw [Ev.rng_iff] at hr
      have HS := Lib.hid (fun W st (hW : Wr W g st) (hc : (Wt.flat st).length ≤ 1000000000) => wnum_p now g st W hW hr.1 (by omega) hc)
      clear hr
      generalize M.encL now = ps at *
      clear k1 k2 k3 k4 k6 k7 n1 n2 n3 n4 n6 n7 HE
      have y0 : w3.cell? ⟨b0, 0, none⟩ = some (.int .i64 7) := HH3.out.cell 0
      have y : w3.cell? ⟨b0, 13, none⟩ = some (.int .i64 now) := HH3.out.cell 13
      go_wp2_with fail
      refine (HS.out _ _ hw3 (by omega)).mono ?_
      rintro r w4 ⟨rfl, st4, hw4, f, nn, b, o⟩
      have HH4 := Lib.hid (o.has HH3.out hne)
      have HB4 := Lib.hid (o.below HB3.out (Nat.le_trans HG.out (Nat.le_of_lt hsz3)) HG.out)
      have hsz4 : g < w4.heap.size := Nat.lt_of_lt_of_le hsz3 o.size
      have F4 : Hid (Wt.flat st4 = pk ++ ps ∧ st4.2 = false) := Lib.hid ⟨by rw [f, F3.out.1], by rw [b, F3.out.2]⟩
      clear f b o y HH3 HB3 hsz3
      clear y0
      have hEE : Wt.flat st4 = RES := by rw [F4.out.1, HEN.out]
      have HA := Lib.hid (all_good g st4 w4 hw4 F4.out.2 (by rw [hEE]; omega))
      rw [hEE] at HA
      clear hEE
      go_wp2_with fail
      refine HA.out.mono ?_
      rintro r w9 ⟨rfl, hb9⟩
      go_wp2_with fail
      go_ret
      exact ⟨rfl, HB4.out.trans (hb9.mono HB4.out.size)⟩
    · exact absurd hk (by omega)
end Go.Proofs.Ytihhgingdgepcaa
