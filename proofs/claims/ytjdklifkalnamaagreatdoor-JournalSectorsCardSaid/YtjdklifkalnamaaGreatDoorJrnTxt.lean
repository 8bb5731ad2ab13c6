/-
  JrnTxt: the texts JrnLawA, JrnLawB, JrnPl, JrnApp, JrnRow in one.
-/
import Derived.Test.YtjdklifkalnamaaGreatDoorMemOne
import Derived.Test.YtjdklifkalnamaaGreatDoorProg
import Derived.Test.YtjdklifkalnamaaGreatDoorDskFillL
import Derived.Test.YtjdklifkalnamaaGreatDoorJrnPures
import Derived.WalkSpells
import Derived.Laws.MakeOwn
import Derived.Laws.AppendOwn
import Derived.Test.YtjdklifkalnamaaGreatDoorQuiet
import Derived.Test.YtjdklifkalnamaaGreatDoorTake
import Derived.ArgAppend
import Derived.Laws.OwnMore
namespace Go.Proofs.YtjdklifkalnamaaGreatDoor
open Go.RowKit
set_option linter.unusedVariables false

theorem jxor_nat (a b : Nat) (ha : a < 256) (hb : b < 256) : bits .xor .u8 (a : Int) (b : Int) = ((a ^^^ b : Nat) : Int) := by
  have h1 : (BitVec.ofInt 8 (a : Int)).toNat = a := by rw [BitVec.ofInt_natCast, BitVec.toNat_ofNat]; exact Nat.mod_eq_of_lt ha
  have h2 : (BitVec.ofInt 8 (b : Int)).toNat = b := by rw [BitVec.ofInt_natCast, BitVec.toNat_ofNat]; exact Nat.mod_eq_of_lt hb
  have h3 : a ^^^ b < 256 := Nat.xor_lt_two_pow (n := 8) ha hb
  show IntKind.u8.wrap ((BitVec.ofInt 8 (a : Int) ^^^ BitVec.ofInt 8 (b : Int)).toNat : Int) = _
  rw [BitVec.toNat_xor, h1, h2]
  show ((a ^^^ b : Nat) : Int) % 256 = _
  omega
namespace Jrn
/-- The byte i of a record that is made of c. -/
def tb (c : UInt8) (i : Nat) : UInt8 := c ^^^ UInt8.ofNat i
def txt (c : UInt8) (n : Nat) : T := (List.range n).map (tb c)
theorem txt_len (c : UInt8) (n : Nat) : (txt c n).length = n := by unfold txt; simp
theorem txt_succ (c : UInt8) (n : Nat) : txt c (n + 1) = txt c n ++ [tb c n] := by unfold txt; rw [List.range_succ, List.map_append]; rfl
theorem tb_xor (c : UInt8) (i : Nat) : bits .xor .u8 (c.toNat : Int) ((i : Int) % 256) = ((tb c i).toNat : Int) := by
  have e : ((i : Int) % 256) = ((i % 256 : Nat) : Int) := by omega
  rw [e, jxor_nat _ _ c.toNat_lt (by omega)]
  unfold tb
  rw [UInt8.toNat_xor, UInt8.toNat_ofNat']
end Jrn
def txtc (c : UInt8) (n k : Nat) : Array Value := (bcells (Jrn.txt c k ++ List.replicate (n - k) 0)).toArray
theorem txtc_size (c : UInt8) (n k : Nat) (h : k ≤ n) : (txtc c n k).size = n := by simp [txtc, bcells, Jrn.txt_len]; omega
theorem txtc_step (c : UInt8) (n k : Nat) (h : k < n) : (txtc c n k).setIfInBounds k (.int .u8 ((Jrn.tb c k).toNat : Int)) = txtc c n (k + 1) := by
  apply Array.ext'
  rw [Array.toList_setIfInBounds]
  show (bcells _).set k _ = bcells _
  unfold bcells
  rw [List.map_append, List.set_append_right _ _ (by simp [Jrn.txt_len]), List.map_append, Jrn.txt_succ, List.map_append]
  simp only [List.length_map, Jrn.txt_len, Nat.sub_self]
  have e : n - k = (n - (k + 1)) + 1 := by omega
  rw [e, List.replicate_succ, List.map_cons, List.set_cons_zero, List.append_assoc]
  rfl
theorem txtc_fill (c : UInt8) (n : Nat) : txtc c n 0 = fillc c n 0 := rfl
def TextPost (w : World) (c : UInt8) (n : Nat) (e : Ending) (w' : World) : Prop := e = .returned (.string (S (Jrn.txt c n))) ∧ Below w.heap.size w w'
set_option maxHeartbeats 1000000 in
theorem jtext_any (c : UInt8) (n : Nat) (hn : n ≤ 1000000) (w : World) :
    Calls Tryz.prog 27 #[.int .u8 (c.toNat : Int), .int .i64 (n : Int)] w (TextPost w c n) := by
  have hmk := fun W => run_make_bytes c n hn W
  rw [← txtc_fill] at hmk
  have hstep := txtc_step c n
  have hsize := txtc_size c n
  have hall : ∀ W b, Has W b 5 (txtc c n n) → (convert 50 9 (.slice (some ⟨b, 0, none⟩) n n)).run Tryz.prog W = .ok (.string (S (Jrn.txt c n))) W := fun W b hb =>
    conv_text Tryz.underlying50 Tryz.underlying5 Tryz.underlying9 (Jrn.txt c n) (Jrn.txt_len c n) (fun i hi => by
      rw [Nat.zero_add, hb.cell]
      unfold txtc
      rw [Nat.sub_self, List.replicate_zero, List.append_nil, List.getElem?_toArray])
  have HX : Hid _ := fun k => Jrn.tb_xor c k
  have HALL : Hid _ := hall
  have HST : Hid _ := hstep
  have HSZ : Hid _ := hsize
  clear hall hstep hsize
  have n0 : (0 : Int) ≤ (n : Int) := by omega
  have n1 : (n : Int) ≤ 1000000 := by omega
  generalize hF : txtc c n = F at hmk HALL HST HSZ
  clear hF
  go_enter Tryz.func27, Tryz.ntmps27
  go_wp2_with fail
  have hm0 := Has.made w 5 (F 0)
  have hb0 : Below w.heap.size w (w.alloc (.cells (F 0) 5)) := (Below.refl _ w).alloc (Nat.le_refl _) _
  have hs0 := asize w (.cells (F 0) 5)
  generalize World.alloc w _ = W at hm0 hb0 hs0 ⊢
  go_loopw [6] (fun v6 wr => ∃ k : Nat, k ≤ n ∧ v6 = .int .i64 (k : Int) ∧ Has wr w.heap.size 5 (F k) ∧ Only W wr w.heap.size) (fun v6 _ => n - (vInt v6).toNat)
  case atStart => exact ⟨0, Nat.zero_le _, rfl, hm0, Only.refl _ _⟩
  case round =>
    obtain ⟨k, hk, rfl, hf, ho⟩ := hrel
    by_cases hlt : k < n
    · have hki : (k : Int) < (n : Int) := by omega
      have hk0 : (0 : Int) ≤ (k : Int) := by omega
      have hc : ∃ v, wr.cell? ⟨w.heap.size, k, none⟩ = some v := ⟨_, by rw [hf.cell, Array.getElem?_eq_getElem (by rw [HSZ.out k hk]; exact hlt)]⟩
      obtain ⟨v, hc⟩ := hc
      have hfr := hf.free k
      have hx := HX.out k
      have hf' := hf.set k (.int .u8 ((Jrn.tb c k).toNat : Int))
      rw [HST.out k hlt] at hf'
      have HN := Lib.hid (And.intro hf' (ho.trans (Only.set wr w.heap.size k (.int .u8 ((Jrn.tb c k).toNat : Int)))))
      clear hf hf' ho hm0 hmk
      go_wp2_with fail
      refine ⟨⟨k + 1, by omega, by go_num, HN.out.1, HN.out.2⟩, ?_⟩
      simp only [vInt]
      omega
    · obtain rfl : k = n := by omega
      have hcv := HALL.out wr w.heap.size hf
      have hbe := ho.below hb0 (by omega) (Nat.le_refl _)
      have HBE := Lib.hid hbe
      clear hf ho hbe hm0 hmk
      go_wp2_with fail
      go_ret
      exact ⟨rfl, HBE.out⟩
set_option maxHeartbeats 1000000 in
theorem jneed_any (n : Nat) (hn : n ≤ 1000000) (w : World) :
    Calls Tryz.prog 17 #[.int .i64 (n : Int)] w fun e w' => e = .returned (.int .i64 (Jrn.need n : Int)) ∧ w' = w := by
  have n0 : ¬ (n : Int) < 0 := by omega
  go_enter Tryz.func17, Tryz.ntmps17
  go_wp2_with fail
  go_loopw [3, 4] (fun v3 v4 wr => ∃ m : Nat, v3 = .int .i64 (1 + (m : Int)) ∧ v4 = .int .i64 ((n : Int) - 36 - 38 * (m : Int)) ∧ (m = 0 ∨ 38 * (m : Int) < (n : Int) + 2) ∧ wr = w) (fun _ v4 _ => (vInt v4).toNat)
  case atStart => exact ⟨0, rfl, by go_num, Or.inl rfl, rfl⟩
  case round =>
    obtain ⟨m, rfl, rfl, hm, rfl⟩ := hrel
    by_cases hlt : 0 < (n : Int) - 36 - 38 * (m : Int)
    · go_wp2_with fail
      refine ⟨⟨m + 1, by go_num, by go_num, Or.inr (by omega), trivial⟩, ?_⟩
      simp only [vInt]
      omega
    · have hle : ¬ 0 < (n : Int) - 36 - 38 * (m : Int) := hlt
      have hN : (Jrn.need n : Int) = 1 + (m : Int) := by
        unfold Jrn.need
        omega
      go_wp2_with fail
      go_ret
      exact ⟨rfl, rfl⟩
end Go.Proofs.YtjdklifkalnamaaGreatDoor

namespace Go.Proofs.YtjdklifkalnamaaGreatDoor
open Go.RowKit
set_option linter.unusedVariables false

def jtv (L : List (List UInt8)) : List Value := L.map fun s => Value.string (S s)
namespace Jrn
def usedT (L : List T) : Nat := (L.map fun s => need s.length).sum
theorem usedT_take (L : List T) (k : Nat) (h : k < L.length) : usedT (L.take (k + 1)) = usedT (L.take k) + need (L[k]'h).length := by
  unfold usedT
  rw [List.take_succ_eq_append_getElem h, List.map_append, List.sum_append]
  simp
/-- The texts of a journal. -/
def txts (P N : List Rec) : List T := (P ++ N).map Prod.fst
theorem usedT_txts (P N : List Rec) : usedT (txts P N) = usedL P + usedL N := by
  unfold usedT txts usedL
  rw [List.map_append, List.map_append, List.sum_append, List.map_map, List.map_map]
  rfl
/-- A journal whose power goes, or has gone. -/
def Goes (b : Nat) (P N : List Rec) (d : Dsk.St) : Prop := (∃ wn, JUp b wn P N d) ∨ JDown b P N d
theorem goes_short {b : Nat} {P N : List Rec} {d : Dsk.St} (h : Goes b P N d) : (∀ s ∈ txts P N, s.length ≤ 6000) ∧ usedT (txts P N) ≤ 60 ∧ 1 ≤ b := by
  have key : ∀ (B : Nat), (∀ q ∈ P, Shp q) → (∀ q ∈ N, RecOk B q) → ∀ s ∈ txts P N, s.length ≤ 6000 := by
    intro B hP hN s hs
    unfold txts at hs
    obtain ⟨q, hq, rfl⟩ := List.mem_map.1 hs
    rcases List.mem_append.1 hq with hq | hq
    · exact (hP q hq).short
    · exact (hN q hq).short
  rw [usedT_txts]
  rcases h with ⟨wn, h⟩ | h
  · obtain ⟨B, hm, _⟩ := h.mid
    exact ⟨key B hm.pre hm.new, hm.room, hm.b1⟩
  · obtain ⟨B, hm⟩ := h.lost
    exact ⟨key B hm.pre hm.new, hm.room, hm.b1⟩
theorem txts_snoc (P N : List Rec) (s : T) (ts : List Nat) : txts P (N ++ [(s, ts)]) = txts P N ++ [s] := by
  unfold txts
  rw [← List.append_assoc, List.map_append]
  rfl
theorem usedT_le (L : List T) (k : Nat) : usedT (L.take k) ≤ usedT L := by
  have : usedT L = usedT (L.take k) + usedT (L.drop k) := by
    unfold usedT
    rw [← List.sum_append, ← List.map_append, List.take_append_drop]
  omega
end Jrn
/-- A slice of texts that lies in a block g, from its beginning. -/
structure JRow (W : World) (v : Value) (L : List (List UInt8)) : Prop where
  row : W.ownsRow 0 9 1 v L.length (jtv L)
theorem JRow.open_ {W : World} {v : Value} {L : List (List UInt8)} (h : JRow W v L) : (v = .slice none 0 0 ∧ L = []) ∨ ∃ g cap, v = .slice (some ⟨g, 0, none⟩) L.length cap ∧ L.length ≤ cap ∧ cap ≤ maxLen ∧ ∀ j (hj : j < L.length), W.cell? ⟨g, j, none⟩ = some (.string (S (L[j]'hj))) := by
  have hr := h.row
  rcases hr.2 with ⟨h1, h2⟩ | ⟨g, cap, cur, rfl, _, hh, h1, h2, h3, h4⟩
  · exact Or.inl ⟨h1, List.length_eq_zero_iff.1 h2⟩
  · refine Or.inr ⟨g, cap, rfl, h1, h2, fun j hj => ?_⟩
    have hc := hr.cells (g := g) rfl j (.string (S (L[j]'hj))) (by
      unfold jtv
      rw [List.getElem?_map, List.getElem?_eq_getElem hj]
      rfl)
    have hadd : (⟨g, 0, none⟩ : Addr).add j = ⟨g, j, none⟩ := by
      have := Addr.add_mid g 0 j
      rw [Nat.zero_add] at this
      exact this
    rw [hadd] at hc
    exact hc
theorem JRow.below {W W' : World} {v : Value} {L : List (List UInt8)} (h : JRow W v L) (hb : Below W.heap.size W W') : JRow W' v L := by
  obtain ⟨h1, h2⟩ := h.row
  refine ⟨h1, ?_⟩
  rcases h2 with h2 | ⟨g, cap, cur, e, h0, hh, h3, h4, h5, h6⟩
  · exact Or.inl h2
  · have hl : g < W.heap.size := by
      refine Nat.lt_of_not_le fun hge => ?_
      rw [Array.getElem?_eq_none hge] at hh
      cases hh
    exact Or.inr ⟨g, cap, cur, e, h0, (hb.block g hl).trans hh, h3, h4, h5, h6⟩
/-- A slice of texts, whose address is a letter. -/
theorem JRow.any {W : World} {v : Value} {L : List (List UInt8)} (h : JRow W v L) : ∃ A cap, v = .slice A L.length cap ∧ L.length ≤ cap ∧ cap ≤ 9223372036854775807 ∧ ∀ j (hj : j < L.length), ∃ g, A = some ⟨g, 0, none⟩ ∧ W.cell? ⟨g, j, none⟩ = some (.string (S (L[j]'hj))) := by
  rcases h.open_ with ⟨rfl, rfl⟩ | ⟨g, cap, rfl, h1, h2, h3⟩
  · exact ⟨none, 0, rfl, Nat.le_refl _, by decide, fun j hj => absurd hj (Nat.not_lt_zero _)⟩
  · exact ⟨some ⟨g, 0, none⟩, cap, rfl, h1, by simpa only [maxLen] using h2, fun j hj => ⟨g, rfl, h3 j hj⟩⟩
theorem JRow.at_ {W : World} {A : Option Addr} {n cap : Nat} {L : List (List UInt8)} (h : JRow W (.slice A n cap) L) (j : Nat) (hj : j < L.length) : ∃ g, A = some ⟨g, 0, none⟩ ∧ W.cell? ⟨g, j, none⟩ = some (.string (S (L[j]'hj))) := by
  obtain ⟨A', cap', e, _, _, hc⟩ := h.any
  injection e with e _ _
  subst e
  exact hc j hj
/-- The document's journal: its texts, how many last, the start. -/
structure PlAt (W : World) (gp : Nat) (v : Value) (L : List (List UInt8)) (sure boot : Nat) : Prop where
  has : Has W gp 30 #[v, .int .i64 (sure : Int), .int .i64 (boot : Int)]
  row : JRow W v L
theorem PlAt.cs {W : World} {gp : Nat} {v : Value} {L : List (List UInt8)} {sure boot : Nat} (h : PlAt W gp v L sure boot) :
    W.cell? ⟨gp, 0, none⟩ = some v ∧ W.cell? ⟨gp, 1, none⟩ = some (.int .i64 (sure : Int)) ∧ W.cell? ⟨gp, 2, none⟩ = some (.int .i64 (boot : Int)) := ⟨h.has.cell 0, h.has.cell 1, h.has.cell 2⟩
theorem PlAt.below {W W' : World} {gp : Nat} {v : Value} {L : List (List UInt8)} {sure boot : Nat} (h : PlAt W gp v L sure boot) (hb : Below W.heap.size W W') : PlAt W' gp v L sure boot :=
  ⟨h.has.below hb h.has.lt, h.row.below hb⟩
set_option maxHeartbeats 2000000 in
theorem jused_any {w : World} {gp : Nat} {v : Value} {L : List (List UInt8)} {sure boot : Nat} (h : PlAt w gp v L sure boot) (hs : ∀ s ∈ L, s.length ≤ 1000000) (hu : Jrn.usedT L ≤ 1000000) :
    Calls Tryz.prog 28 #[.pointer (some ⟨gp, 0, none⟩)] w fun e w' => e = .returned (.int .i64 (Jrn.usedT L : Int)) ∧ w' = w := by
  obtain ⟨c0, _, _⟩ := h.cs
  rcases h.row.open_ with ⟨rfl, rfl⟩ | ⟨g, cap, rfl, hlc, hcm, hcell⟩
  · clear h hs hu
    go_enter Tryz.func28, Tryz.ntmps28
    go_wp2_with fail
    refine wp_loop_rounds 1 ?_
    rw [rounds_succ]
    go_wp2_with fail
    go_ret
    exact ⟨rfl, rfl⟩
  · have HCELL := Lib.hid hcell
    have hcm' : cap ≤ 9223372036854775807 := by simpa only [maxLen] using hcm
    have HS := Lib.hid hs
    have HT := Lib.hid (fun k hk => Jrn.usedT_take L k hk)
    have HL := Lib.hid (fun k => Jrn.usedT_le L k)
    have HU := Lib.hid hu
    have hall : Jrn.usedT (L.take L.length) = Jrn.usedT L := by rw [List.take_length]
    clear h hcell hs hu hcm
    go_enter Tryz.func28, Tryz.ntmps28
    go_wp2_with fail
    go_loopw [3, 4] (fun v3 v4 wr => ∃ k : Nat, k ≤ L.length ∧ v3 = .int .i64 (Jrn.usedT (L.take k) : Int) ∧ v4 = .int .i64 (k : Int) ∧ wr = w) (fun _ v4 _ => L.length - (vInt v4).toNat)
    case atStart => exact ⟨0, Nat.zero_le _, rfl, rfl, rfl⟩
    case round =>
      obtain ⟨k, hk, rfl, rfl, rfl⟩ := hrel
      have hk0 : (0 : Int) ≤ (k : Int) := by omega
      by_cases hlt : k < L.length
      · have hki : (k : Int) < (L.length : Int) := by omega
        have hkc : (k : Int) < (cap : Int) := by omega
        have hc := HCELL.out k hlt
        have hle := HS.out (L[k]'hlt) (List.getElem_mem hlt)
        have hT := HT.out k hlt
        have hU1 := HL.out (k + 1)
        have hU := HU.out
        have HN := Lib.hid (jneed_any (L[k]'hlt).length hle wr)
        have hsum : (Jrn.usedT (L.take (k + 1)) : Int) = (Jrn.usedT (L.take k) : Int) + (Jrn.need (L[k]'hlt).length : Int) := by omega
        have HGO := Lib.hid hsum
        have hb1 : Jrn.usedT (L.take k) ≤ 1000000 := by omega
        have hb2 : Jrn.need (L[k]'hlt).length ≤ 1000000 := by omega
        clear hT hU1 hsum hU
        generalize hu1 : Jrn.usedT (L.take k) = u1 at HGO hb1
        generalize hnd : Jrn.need (L[k]'hlt).length = nd at HGO HN hb2
        generalize (L[k]'hlt) = s at hc hle HN
        clear hu1
        go_wp2_with fail
        refine HN.out.mono ?_
        rintro r w1 ⟨rfl, rfl⟩
        go_wp2_with fail
        go_roundw
        · exact ⟨k + 1, by omega, by rw [HGO.out], by go_num, trivial⟩
        · simp only [vInt]; omega
      · obtain rfl : k = L.length := by omega
        have hki : ¬ (L.length : Int) < (L.length : Int) := by omega
        rw [hall]
        go_wp2_with fail
        go_ret
        exact ⟨rfl, rfl⟩
end Go.Proofs.YtjdklifkalnamaaGreatDoor

namespace Go.Proofs.YtjdklifkalnamaaGreatDoor
open Go.RowKit
set_option linter.unusedVariables false

theorem JRow.lt {W : World} {v : Value} {L : List (List UInt8)} (h : JRow W v L) : ∀ k, v.ownBlock = some k → k < W.heap.size := fun k hk => (h.row.lt k hk).2
theorem JRow.mv {W W' : World} {v : Value} {L : List (List UInt8)} {l : List Nat} (h : JRow W v L) (hm : Mv W W' l) (hn : ∀ k, v.ownBlock = some k → k ∉ l) : JRow W' v L := by
  have hlt := h.lt
  obtain ⟨h1, h2⟩ := h.row
  refine ⟨h1, ?_⟩
  rcases h2 with h2 | ⟨g, cap, cur, rfl, h0, hh, h3, h4, h5, h6⟩
  · exact Or.inl h2
  · exact Or.inr ⟨g, cap, cur, rfl, h0, (hm.block g (hlt g rfl) (hn g rfl)).trans hh, h3, h4, h5, h6⟩
/-- The first k of them. -/
theorem JRow.take {W : World} {A : Option Addr} {n cap : Nat} {L : List (List UInt8)} (h : JRow W (.slice A n cap) L) (k : Nat) (hk : k ≤ L.length) : JRow W (.slice A k cap) (L.take k) := by
  obtain ⟨h1, h2⟩ := h.row
  have hl : (L.take k).length = k := by rw [List.length_take]; omega
  have ht : jtv (L.take k) = (jtv L).take k := by unfold jtv; rw [List.map_take]
  refine ⟨by rw [ht, hl, List.length_take, h1]; omega, ?_⟩
  rcases h2 with ⟨e, h2⟩ | ⟨g, cap', cur, e, h0, hh, h3, h4, h5, h6⟩
  · injection e with e1 e2 e3
    subst e1
    subst e3
    have : k = 0 := by omega
    subst this
    exact Or.inl ⟨rfl, hl⟩
  · injection e with e1 e2 e3
    subst e1
    subst e3
    refine Or.inr ⟨g, cap, cur, by rw [hl], h0, hh, by rw [hl]; omega, h4, h5, ?_⟩
    rw [ht, hl, ← h6, List.take_take]
    congr 1
    omega
/-- A block that is kept, if any. -/
abbrev Kp := Option (Nat × TypeId × Array Value)
/-- The document's journal, whose blocks are none of l. -/
structure PlIn (K : Kp) (w0 W : World) (gp : Nat) (v : Value) (L : List (List UInt8)) (sure boot : Nat) (l : List Nat) : Prop where
  at_ : PlAt W gp v L sure boot
  own : v.ownBlock ≠ some gp
  no : gp ∉ l
  nor : ∀ k, v.ownBlock = some k → k ∉ l
  lo : w0.heap.size ≤ gp
  lor : ∀ k, v.ownBlock = some k → w0.heap.size ≤ k
  kp : ∀ o t cs, K = some (o, t, cs) → Has W o t cs ∧ o ∉ l ∧ o ≠ gp ∧ v.ownBlock ≠ some o
section
variable {K : Kp} {w0 W W' : World} {gp : Nat} {v : Value} {L : List (List UInt8)} {sure boot : Nat} {l l' : List Nat}
theorem PlIn.below (h : PlIn K w0 W gp v L sure boot l) (hb : Below W.heap.size W W') : PlIn K w0 W' gp v L sure boot l :=
  ⟨h.at_.below hb, h.own, h.no, h.nor, h.lo, h.lor, fun o t cs e => by
    obtain ⟨h1, h2⟩ := h.kp o t cs e
    exact ⟨h1.below hb h1.lt, h2⟩⟩
theorem PlIn.mv (h : PlIn K w0 W gp v L sure boot l) (hm : Mv W W' l) : PlIn K w0 W' gp v L sure boot l :=
  ⟨⟨hm.has h.at_.has h.no, h.at_.row.mv hm h.nor⟩, h.own, h.no, h.nor, h.lo, h.lor, fun o t cs e => by
    obtain ⟨h1, h2, h3⟩ := h.kp o t cs e
    exact ⟨hm.has h1 h2, h2, h3⟩⟩
theorem PlIn.klt (h : PlIn K w0 W gp v L sure boot l) : ∀ o t cs, K = some (o, t, cs) → o < W.heap.size := fun o t cs e => (h.kp o t cs e).1.lt
theorem PlIn.less (h : PlIn K w0 W gp v L sure boot l) (hs : ∀ k ∈ l', k ∈ l ∨ (k ≠ gp ∧ v.ownBlock ≠ some k ∧ ∀ o t cs, K = some (o, t, cs) → k ≠ o)) : PlIn K w0 W gp v L sure boot l' :=
  ⟨h.at_, h.own, fun hk => by
    rcases hs _ hk with h1 | ⟨h1, _⟩
    · exact h.no h1
    · exact h1 rfl, fun k hk hm => by
    rcases hs _ hm with h1 | ⟨_, h1, _⟩
    · exact h.nor k hk h1
    · exact h1 hk, h.lo, h.lor, fun o t cs e => by
    obtain ⟨h1, h2, h3⟩ := h.kp o t cs e
    refine ⟨h1, fun hm => ?_, h3⟩
    rcases hs _ hm with q | ⟨_, _, q⟩
    · exact h2 q
    · exact q o t cs e rfl⟩
theorem PlIn.lt (h : PlIn K w0 W gp v L sure boot l) : gp < W.heap.size ∧ ∀ k, v.ownBlock = some k → k < W.heap.size := ⟨h.at_.has.lt, h.at_.row.lt⟩
/-- Its numbers, its slice, are stored. -/
theorem PlIn.set (h : PlIn K w0 W gp v L sure boot l) (i : Nat) (u v' : Value) (L' : List (List UInt8)) (sure' boot' : Nat)
    (e : (#[v, .int .i64 (sure : Int), .int .i64 (boot : Int)] : Array Value).setIfInBounds i u = #[v', .int .i64 (sure' : Int), .int .i64 (boot' : Int)]) (hv : v'.ownBlock = v.ownBlock) (hr : JRow W v' L') : PlIn K w0 (W.setCell ⟨gp, i, none⟩ u) gp v' L' sure' boot' l := by
  have ho := Only.set W gp i u
  refine ⟨⟨by rw [← e]; exact h.at_.has.set i u, hr.mv (Mv.of_only ho (s := [gp]) (by simp)) ?_⟩, by rw [hv]; exact h.own, h.no, by rw [hv]; exact h.nor, h.lo, by rw [hv]; exact h.lor, fun o t cs e => ?_⟩
  · intro k hk hm
    rw [hv] at hk
    rw [List.mem_singleton.1 hm] at hk
    exact h.own hk
  · obtain ⟨h1, h2, h3, h4⟩ := h.kp o t cs e
    exact ⟨ho.has h1 h3, h2, h3, by rw [hv]; exact h4⟩
/-- A new block is kept. -/
theorem PlIn.keep {o : Nat} {t : TypeId} {cs : Array Value} (h : PlIn none w0 W gp v L sure boot l) (hh : Has W o t cs) (h1 : o ∉ l) (h2 : o ≠ gp) (h3 : v.ownBlock ≠ some o) : PlIn (some (o, t, cs)) w0 W gp v L sure boot l :=
  ⟨h.at_, h.own, h.no, h.nor, h.lo, h.lor, fun o' t' cs' e => by
    injection e with e
    simp only [Prod.mk.injEq] at e
    obtain ⟨rfl, rfl, rfl⟩ := e
    exact ⟨hh, h1, h2, h3⟩⟩
theorem PlIn.drop (h : PlIn K w0 W gp v L sure boot l) : PlIn none w0 W gp v L sure boot l := ⟨h.at_, h.own, h.no, h.nor, h.lo, h.lor, fun _ _ _ e => by cases e⟩
end
end Go.Proofs.YtjdklifkalnamaaGreatDoor

namespace Go.Proofs.YtjdklifkalnamaaGreatDoor
open Go.RowKit
set_option linter.unusedVariables false

theorem jstrInfo : ∃ i0 : TypeInfo, Tryz.prog.info? 9 = some i0 ∧ i0.zero = some (.string ⟨#[]⟩) ∧ i0.size = 1 ∧ i0.bytes = 16 := by
  have h : (Tryz.prog.info? 9).map (fun i => (i.zero, i.size, i.bytes)) = some (some (.string ⟨#[]⟩), 1, 16) := by kernel_rfl
  cases hq : Tryz.prog.info? 9 with
  | none => rw [hq] at h; cases h
  | some i0 =>
    rw [hq] at h
    injection h with h
    simp only [Prod.mk.injEq] at h
    exact ⟨i0, rfl, h.1, h.2.1, h.2.2⟩
theorem jrow_low {W : World} {B : Nat} {v : Value} {n : Nat} {L : List (List UInt8)} (h : W.ownsRow B 9 1 v n (jtv L)) (hn : n = L.length) : JRow W v L := by
  subst hn
  obtain ⟨h1, h2⟩ := h
  refine ⟨h1, ?_⟩
  rcases h2 with h2 | ⟨g, cap, cur, e, h0, h3⟩
  · exact Or.inl h2
  · exact Or.inr ⟨g, cap, cur, e, Nat.zero_le _, h3⟩
theorem mv_none {w w' : World} (h : w.grownBy w' none) (l : List Nat) : Mv w w' l := ⟨h.os, h.tape, h.output, h.size, fun k hk _ => h.block k hk (by simp)⟩
theorem run_append_pl {w : World} {v : Value} {L : List (List UInt8)} {s : List UInt8} {b4 : Nat} {ty : TypeId} (h : JRow w v L) (hc : w.cell? ⟨b4, 0, none⟩ = some (.string (S s))) (hl : L.length ≤ 1000000) :
    ∃ v' w', (Builtin.append_ #[28, 28] ty #[v, .slice (some ⟨b4, 0, none⟩) 1 1]).run Tryz.prog w = .ok v' w' ∧ JRow w' v' (L ++ [s]) ∧ Mv w w' v.ownBlock.toList ∧ (v'.ownBlock = v.ownBlock ∨ ∀ k, v'.ownBlock = some k → w.heap.size ≤ k) := by
  obtain ⟨i0, h1, h2, h3, h4⟩ := jstrInfo
  have hnews : ∀ j u, [Value.string (S s)][j]? = some u → w.cell? ((⟨b4, 0, none⟩ : Addr).add j) = some u := by
    intro j u hu
    cases j with
    | zero =>
      have e : (⟨b4, 0, none⟩ : Addr).add 0 = ⟨b4, 0, none⟩ := rfl
      rw [e, hc]
      simpa using hu
    | succ j => simp at hu
  have hj : jtv L ++ [.string (S s)] = jtv (L ++ [s]) := by unfold jtv; simp
  have hlen : (L ++ [s]).length = L.length + 1 := by simp
  have hjl : (jtv L).length = L.length := by unfold jtv; simp
  rcases h.row.2 with ⟨rfl, h0⟩ | ⟨g, cap, cur, rfl, hbg, hg, hnc, hcm, hcs, htake⟩
  · have hL : L = [] := List.length_eq_zero_iff.1 h0
    subst hL
    obtain ⟨v', w', hr, r1, r2, _⟩ := run_append_own (P := Tryz.prog) w w.heap.size 28 ty 9 i0 (.string ⟨#[]⟩) 1 16 Tryz.underlying28 h1 h2 h3 h4 rfl (by decide) (.slice none 0 0) 0 [] (World.ownsRow_nil w _ _ 1) ⟨b4, 0, none⟩ 1 1 [.string (S s)] rfl hnews (by simp [Value.oneCell']) (by simp only [maxLen]; omega) (by omega) (Nat.le_refl _)
    have hlt := r1.lt
    exact ⟨v', w', hr, jrow_low (L := [] ++ [s]) r1 rfl, mv_none r2 _, Or.inr fun k hk => (hlt k hk).1⟩
  · by_cases hroom : L.length + 1 ≤ cap
    · have hfit : L.length * i0.size + [Value.string (S s)].length ≤ cur.size := by rw [h3, hcs]; simp; omega
      have hr := run_append_room (P := Tryz.prog) w 28 ty 9 i0 Tryz.underlying28 h1 g L.length cap cur hg ⟨b4, 0, none⟩ 1 1 [.string (S s)] (by rw [h3]; rfl) hnews (by simp [Value.oneCell']) hroom hfit
      refine ⟨_, _, hr, ⟨by rw [← hj, hlen, List.length_append, hjl]; simp, Or.inr ⟨g, cap, _, by rw [hlen], Nat.zero_le _, setRow_heap w g cur _ 9 _ hg, by rw [hlen]; exact hroom, hcm, ?_, ?_⟩⟩, ⟨rfl, rfl, rfl, by simp, fun k hk hn => setRow_other w g k _ (fun e => hn (by rw [e]; simp [Value.ownBlock]))⟩, Or.inl rfl⟩
      · simp only [List.size_toArray, List.length_append, List.length_take, List.length_drop, Array.length_toList, List.length_cons, List.length_nil, h3]
        omega
      · rw [h3] at *
        rw [hlen, htake, ← hj]
        have e : (L.length + 1) * 1 = (jtv L ++ [Value.string (S s)]).length := by rw [List.length_append, hjl]; simp
        rw [e]
        exact List.take_left
    · have holds : ∀ j u, (jtv L)[j]? = some u → w.cell? ((⟨g, 0, none⟩ : Addr).add j) = some u := h.row.cells (g := g) rfl
      obtain ⟨v', w', hr, r1, r2⟩ := run_append_arg_grows (P := Tryz.prog) w 28 ty 9 i0 (.string ⟨#[]⟩) 1 16 Tryz.underlying28 h1 h2 h3 h4 rfl (by decide) ⟨g, 0, none⟩ L.length cap (jtv L) (by rw [hjl]; omega) holds ⟨b4, 0, none⟩ 1 1 [.string (S s)] rfl hnews (by omega) (by simp only [maxLen]; omega) (by omega)
      have hlt := r1.lt
      rw [hj] at r1
      exact ⟨v', w', hr, jrow_low r1 hlen.symm, mv_none r2 _, Or.inr fun k hk => (hlt k hk).1⟩
/-- append, at the operation. -/
theorem wpList_append_pl {ops : Array Oper} {rest : List Oper} {o : Oper} {a : Act} {Q : Exit → Act → World → Prop} {w : World} (hgd : o.guard = none) (sl x : Operand)
    (ho : o.op = .call { callee := .builtin .append, args := #[sl, x], argTypes := #[28, 28] }) (v : Value) (L : List (List UInt8)) (s : List UInt8) (b4 : Nat) (hs : a.eval sl = v) (hx : a.eval x = .slice (some ⟨b4, 0, none⟩) 1 1)
    (h : JRow w v L) (hc : w.cell? ⟨b4, 0, none⟩ = some (.string (S s))) (hl : L.length ≤ 1000000)
    (hK : ∀ v' w', JRow w' v' (L ++ [s]) → Mv w w' v.ownBlock.toList → (v'.ownBlock = v.ownBlock ∨ ∀ k, v'.ownBlock = some k → w.heap.size ≤ k) → wpList Tryz.prog ops Q rest (a.put o.dst v') w') : wpList Tryz.prog ops Q (o :: rest) a w := by
  refine wpList_plain hgd fun K hKK => ?_
  obtain ⟨v', w', hr, h1, h2, h3⟩ := run_append_pl (ty := o.type) h hc hl
  unfold Oper.wp execOp
  simp only [ho, resolve, invoke, builtin, Sem.run_bind, Sem.run_pure, Result.andThen_ok, List.map_toArray, List.map_cons, List.map_nil, hs, hx, hr]
  exact hKK _ _ (hK v' w' h1 h2 h3)
end Go.Proofs.YtjdklifkalnamaaGreatDoor

namespace Go.Proofs.YtjdklifkalnamaaGreatDoor
open Go.RowKit
set_option linter.unusedVariables false

def jiv (L : List Nat) : List Value := L.map fun n : Nat => Value.int .i64 (n : Int)
theorem jiv_append (A B : List Nat) : jiv (A ++ B) = jiv A ++ jiv B := by unfold jiv; rw [List.map_append]
theorem jiv_len (A : List Nat) : (jiv A).length = A.length := by unfold jiv; rw [List.length_map]
theorem jiv_get (A : List Nat) (j : Nat) (h : j < A.length) : (jiv A)[j]? = some (.int .i64 ((A[j]'h : Nat) : Int)) := by
  unfold jiv
  rw [List.getElem?_map, List.getElem?_eq_getElem h]
  rfl
/-- A slice of numbers that lies in a block, from its beginning. -/
structure IRow (W : World) (v : Value) (L : List Nat) : Prop where
  row : W.ownsRow 0 3 1 v L.length (jiv L)
theorem IRow.open_ {W : World} {v : Value} {L : List Nat} (h : IRow W v L) : (v = .slice none 0 0 ∧ L = []) ∨ ∃ g cap, v = .slice (some ⟨g, 0, none⟩) L.length cap ∧ L.length ≤ cap ∧ cap ≤ maxLen ∧ ∀ j (hj : j < L.length), W.cell? ⟨g, j, none⟩ = some (.int .i64 ((L[j]'hj : Nat) : Int)) := by
  have hr := h.row
  rcases hr.2 with ⟨h1, h2⟩ | ⟨g, cap, cur, rfl, _, hh, h1, h2, h3, h4⟩
  · exact Or.inl ⟨h1, List.length_eq_zero_iff.1 h2⟩
  · refine Or.inr ⟨g, cap, rfl, h1, h2, fun j hj => ?_⟩
    have hc := hr.cells (g := g) rfl j _ (jiv_get L j hj)
    have hadd : (⟨g, 0, none⟩ : Addr).add j = ⟨g, j, none⟩ := by
      have := Addr.add_mid g 0 j
      rw [Nat.zero_add] at this
      exact this
    rw [hadd] at hc
    exact hc
theorem IRow.any {W : World} {v : Value} {L : List Nat} (h : IRow W v L) : ∃ A cap, v = .slice A L.length cap ∧ L.length ≤ cap ∧ cap ≤ 9223372036854775807 ∧ ∀ j (hj : j < L.length), ∃ g, A = some ⟨g, 0, none⟩ ∧ W.cell? ⟨g, j, none⟩ = some (.int .i64 ((L[j]'hj : Nat) : Int)) := by
  rcases h.open_ with ⟨rfl, rfl⟩ | ⟨g, cap, rfl, h1, h2, h3⟩
  · exact ⟨none, 0, rfl, Nat.le_refl _, by decide, fun j hj => absurd hj (Nat.not_lt_zero _)⟩
  · exact ⟨some ⟨g, 0, none⟩, cap, rfl, h1, by simpa only [maxLen] using h2, fun j hj => ⟨g, rfl, h3 j hj⟩⟩
theorem IRow.at_ {W : World} {A : Option Addr} {n cap : Nat} {L : List Nat} (h : IRow W (.slice A n cap) L) (j : Nat) (hj : j < L.length) : ∃ g, A = some ⟨g, 0, none⟩ ∧ W.cell? ⟨g, j, none⟩ = some (.int .i64 ((L[j]'hj : Nat) : Int)) := by
  obtain ⟨A', cap', e, _, _, hc⟩ := h.any
  injection e with e _ _
  subst e
  exact hc j hj
theorem IRow.below {W W' : World} {v : Value} {L : List Nat} (h : IRow W v L) (hb : Below W.heap.size W W') : IRow W' v L := by
  obtain ⟨h1, h2⟩ := h.row
  refine ⟨h1, ?_⟩
  rcases h2 with h2 | ⟨g, cap, cur, e, h0, hh, h3, h4, h5, h6⟩
  · exact Or.inl h2
  · have hl : g < W.heap.size := by
      refine Nat.lt_of_not_le fun hge => ?_
      rw [Array.getElem?_eq_none hge] at hh
      cases hh
    exact Or.inr ⟨g, cap, cur, e, h0, (hb.block g hl).trans hh, h3, h4, h5, h6⟩
theorem IRow.lt {W : World} {v : Value} {L : List Nat} (h : IRow W v L) : ∀ k, v.ownBlock = some k → k < W.heap.size := fun k hk => (h.row.lt k hk).2
theorem IRow.mv {W W' : World} {v : Value} {L : List Nat} {l : List Nat} (h : IRow W v L) (hm : Mv W W' l) (hn : ∀ k, v.ownBlock = some k → k ∉ l) : IRow W' v L := by
  have hlt := h.lt
  obtain ⟨h1, h2⟩ := h.row
  refine ⟨h1, ?_⟩
  rcases h2 with h2 | ⟨g, cap, cur, rfl, h0, hh, h3, h4, h5, h6⟩
  · exact Or.inl h2
  · exact Or.inr ⟨g, cap, cur, rfl, h0, (hm.block g (hlt g rfl) (hn g rfl)).trans hh, h3, h4, h5, h6⟩
theorem jintInfo : ∃ i0 : TypeInfo, Tryz.prog.info? 3 = some i0 ∧ i0.zero = some (.int .i64 0) ∧ i0.size = 1 ∧ i0.bytes = 8 := by
  have h : (Tryz.prog.info? 3).map (fun i => (i.zero, i.size, i.bytes)) = some (some (.int .i64 0), 1, 8) := by kernel_rfl
  cases hq : Tryz.prog.info? 3 with
  | none => rw [hq] at h; cases h
  | some i0 =>
    rw [hq] at h
    injection h with h
    simp only [Prod.mk.injEq] at h
    exact ⟨i0, rfl, h.1, h.2.1, h.2.2⟩
theorem irow_low {W : World} {B : Nat} {v : Value} {n : Nat} {L : List Nat} (h : W.ownsRow B 3 1 v n (jiv L)) (hn : n = L.length) : IRow W v L := by
  subst hn
  obtain ⟨h1, h2⟩ := h
  refine ⟨h1, ?_⟩
  rcases h2 with h2 | ⟨g, cap, cur, e, h0, h3⟩
  · exact Or.inl h2
  · exact Or.inr ⟨g, cap, cur, e, Nat.zero_le _, h3⟩
theorem jiv_one (M : List Nat) : ∀ u ∈ jiv M, u.oneCell' = true := by
  intro u hu
  unfold jiv at hu
  obtain ⟨n, _, rfl⟩ := List.mem_map.1 hu
  rfl
set_option maxRecDepth 100000 in
theorem run_append_iv {w : World} {v : Value} {L M : List Nat} {b4 c4 : Nat} {ty : TypeId} (h : IRow w v L) (hc : ∀ j (hj : j < M.length), w.cell? ⟨b4, j, none⟩ = some (.int .i64 ((M[j]'hj : Nat) : Int))) (hl : L.length ≤ 1000000) (hm : M.length ≤ 1000000) (hM : M ≠ []) :
    ∃ v' w', (Builtin.append_ #[60, 60] ty #[v, .slice (some ⟨b4, 0, none⟩) M.length c4]).run Tryz.prog w = .ok v' w' ∧ IRow w' v' (L ++ M) ∧ Mv w w' v.ownBlock.toList ∧ (v'.ownBlock = v.ownBlock ∨ ∀ k, v'.ownBlock = some k → w.heap.size ≤ k) := by
  obtain ⟨i0, h1, h2, h3, h4⟩ := jintInfo
  have hnews : ∀ j u, (jiv M)[j]? = some u → w.cell? ((⟨b4, 0, none⟩ : Addr).add j) = some u := by
    intro j u hu
    have hj : j < M.length := by rw [← jiv_len]; exact (List.getElem?_eq_some_iff.1 hu).1
    have hadd : (⟨b4, 0, none⟩ : Addr).add j = ⟨b4, j, none⟩ := by
      have := Addr.add_mid b4 0 j
      rw [Nat.zero_add] at this
      exact this
    rw [hadd, hc j hj, ← jiv_get M j hj, hu]
  have hlen : (L ++ M).length = L.length + M.length := by simp
  have hml : (jiv M).length = M.length * 1 := by rw [jiv_len, Nat.mul_one]
  rcases h.row.2 with ⟨rfl, h0⟩ | ⟨g, cap, cur, rfl, hbg, hg, hnc, hcm, hcs, htake⟩
  · have hL : L = [] := List.length_eq_zero_iff.1 h0
    subst hL
    obtain ⟨v', w', hr, r1, r2, _⟩ := run_append_own (P := Tryz.prog) w w.heap.size 60 ty 3 i0 (.int .i64 0) 1 8 Tryz.underlying60 h1 h2 h3 h4 rfl (by decide) (.slice none 0 0) 0 [] (World.ownsRow_nil w _ _ 1) ⟨b4, 0, none⟩ M.length c4 (jiv M) hml hnews (jiv_one M) (by simp only [maxLen]; omega) (by omega) (Nat.le_refl _)
    have hlt := r1.lt
    exact ⟨v', w', hr, irow_low (L := [] ++ M) r1 (by simp), mv_none r2 _, Or.inr fun k hk => (hlt k hk).1⟩
  · by_cases hroom : L.length + M.length ≤ cap
    · have hfit : L.length * i0.size + (jiv M).length ≤ cur.size := by rw [h3, hcs, hml]; omega
      have hr := run_append_room (P := Tryz.prog) w 60 ty 3 i0 Tryz.underlying60 h1 g L.length cap cur hg ⟨b4, 0, none⟩ M.length c4 (jiv M) (by rw [h3]; exact hml) hnews (jiv_one M) hroom hfit
      refine ⟨_, _, hr, ⟨by rw [jiv_append, hlen, List.length_append, jiv_len, jiv_len]; omega, Or.inr ⟨g, cap, _, by rw [hlen], Nat.zero_le _, setRow_heap w g cur _ 3 _ hg, by rw [hlen]; exact hroom, hcm, ?_, ?_⟩⟩, ⟨rfl, rfl, rfl, by simp, fun k hk hn => setRow_other w g k _ (fun e => hn (by rw [e]; simp [Value.ownBlock]))⟩, Or.inl rfl⟩
      · simp only [List.size_toArray, List.length_append, List.length_take, List.length_drop, Array.length_toList, h3, jiv_len]
        omega
      · rw [h3] at *
        rw [hlen, htake, jiv_append]
        have e : (L.length + M.length) * 1 = (jiv L ++ jiv M).length := by rw [List.length_append, jiv_len, jiv_len]; omega
        rw [e]
        exact List.take_left
    · have holds : ∀ j u, (jiv L)[j]? = some u → w.cell? ((⟨g, 0, none⟩ : Addr).add j) = some u := h.row.cells (g := g) rfl
      obtain ⟨v', w', hr, r1, r2⟩ := run_append_arg_grows (P := Tryz.prog) w 60 ty 3 i0 (.int .i64 0) 1 8 Tryz.underlying60 h1 h2 h3 h4 rfl (by decide) ⟨g, 0, none⟩ L.length cap (jiv L) (by rw [jiv_len]; omega) holds ⟨b4, 0, none⟩ M.length c4 (jiv M) hml hnews (by omega) (by simp only [maxLen]; omega) (by omega)
      have hlt := r1.lt
      rw [← jiv_append] at r1
      exact ⟨v', w', hr, irow_low r1 hlen.symm, mv_none r2 _, Or.inr fun k hk => (hlt k hk).1⟩
set_option maxRecDepth 100000 in
/-- append, at the operation. -/
theorem wpList_append_iv {ops : Array Oper} {rest : List Oper} {o : Oper} {a : Act} {Q : Exit → Act → World → Prop} {w : World} (hgd : o.guard = none) (sl x : Operand)
    (ho : o.op = .call { callee := .builtin .append, args := #[sl, x], argTypes := #[60, 60] }) (v : Value) (L M : List Nat) (b4 c4 : Nat) (hs : a.eval sl = v) (hx : a.eval x = .slice (some ⟨b4, 0, none⟩) M.length c4)
    (h : IRow w v L) (hc : ∀ j (hj : j < M.length), w.cell? ⟨b4, j, none⟩ = some (.int .i64 ((M[j]'hj : Nat) : Int))) (hl : L.length ≤ 1000000) (hm : M.length ≤ 1000000) (hM : M ≠ [])
    (hK : ∀ v' w', IRow w' v' (L ++ M) → Mv w w' v.ownBlock.toList → (v'.ownBlock = v.ownBlock ∨ ∀ k, v'.ownBlock = some k → w.heap.size ≤ k) → wpList Tryz.prog ops Q rest (a.put o.dst v') w') : wpList Tryz.prog ops Q (o :: rest) a w := by
  refine wpList_plain hgd fun K hKK => ?_
  obtain ⟨v', w', hr, h1, h2, h3⟩ := run_append_iv (ty := o.type) h hc hl hm hM
  unfold Oper.wp execOp
  simp only [ho, resolve, invoke, builtin, Sem.run_bind, Sem.run_pure, Result.andThen_ok, List.map_toArray, List.map_cons, List.map_nil, hs, hx]
  rw [hr]
  exact hKK _ _ (hK v' w' h1 h2 h3)
/-- A slice of texts that a call has made itself, behind size B. -/
structure JOwn (B : Nat) (W : World) (v : Value) (L : List (List UInt8)) : Prop where
  row : JRow W v L
  lo : ∀ k, v.ownBlock = some k → B ≤ k
structure IOwn (B : Nat) (W : World) (v : Value) (L : List Nat) : Prop where
  row : IRow W v L
  lo : ∀ k, v.ownBlock = some k → B ≤ k
theorem JOwn.nil (B : Nat) (W : World) : JOwn B W (.slice none 0 0) [] := ⟨⟨World.ownsRow_nil W 0 _ 1⟩, fun k hk => by simp [Value.ownBlock] at hk⟩
theorem IOwn.nil (B : Nat) (W : World) : IOwn B W (.slice none 0 0) [] := ⟨⟨World.ownsRow_nil W 0 _ 1⟩, fun k hk => by simp [Value.ownBlock] at hk⟩
theorem JOwn.below {B : Nat} {W W' : World} {v : Value} {L : List (List UInt8)} (h : JOwn B W v L) (hb : Below W.heap.size W W') : JOwn B W' v L := ⟨h.row.below hb, h.lo⟩
theorem IOwn.below {B : Nat} {W W' : World} {v : Value} {L : List Nat} (h : IOwn B W v L) (hb : Below W.heap.size W W') : IOwn B W' v L := ⟨h.row.below hb, h.lo⟩
theorem JOwn.mono {B B' : Nat} {W : World} {v : Value} {L : List (List UInt8)} (h : JOwn B W v L) (hB : B' ≤ B) : JOwn B' W v L := ⟨h.row, fun k hk => Nat.le_trans hB (h.lo k hk)⟩
theorem IOwn.mono {B B' : Nat} {W : World} {v : Value} {L : List Nat} (h : IOwn B W v L) (hB : B' ≤ B) : IOwn B' W v L := ⟨h.row, fun k hk => Nat.le_trans hB (h.lo k hk)⟩
/-- Behind an append. -/
theorem JOwn.app {B : Nat} {W W' : World} {v v' : Value} {L L' : List (List UInt8)} (h : JOwn B W v L) (hr : JRow W' v' L') (ho : v'.ownBlock = v.ownBlock ∨ ∀ k, v'.ownBlock = some k → W.heap.size ≤ k) (hB : B ≤ W.heap.size) : JOwn B W' v' L' :=
  ⟨hr, fun k hk => by
    rcases ho with ho | ho
    · rw [ho] at hk; exact h.lo k hk
    · exact Nat.le_trans hB (ho k hk)⟩
theorem IOwn.app {B : Nat} {W W' : World} {v v' : Value} {L L' : List Nat} (h : IOwn B W v L) (hr : IRow W' v' L') (ho : v'.ownBlock = v.ownBlock ∨ ∀ k, v'.ownBlock = some k → W.heap.size ≤ k) (hB : B ≤ W.heap.size) : IOwn B W' v' L' :=
  ⟨hr, fun k hk => by
    rcases ho with ho | ho
    · rw [ho] at hk; exact h.lo k hk
    · exact Nat.le_trans hB (ho k hk)⟩
theorem JOwn.bel {B : Nat} {W0 W W' : World} {v : Value} {L : List (List UInt8)} (h : JOwn B W v L) (hb : Below B W0 W) (hB : B ≤ W.heap.size) (hm : Mv W W' v.ownBlock.toList) : Below B W0 W' := hm.below hb hB fun x hx => h.lo x (by simpa using hx)
theorem IOwn.bel {B : Nat} {W0 W W' : World} {v : Value} {L : List Nat} (h : IOwn B W v L) (hb : Below B W0 W) (hB : B ≤ W.heap.size) (hm : Mv W W' v.ownBlock.toList) : Below B W0 W' := hm.below hb hB fun x hx => h.lo x (by simpa using hx)
/-- Another row stays. -/
theorem IOwn.mvj {B : Nat} {W W' : World} {v u : Value} {L : List Nat} (h : IOwn B W v L) (hm : Mv W W' u.ownBlock.toList) (hn : ∀ k, v.ownBlock = some k → u.ownBlock ≠ some k) : IOwn B W' v L := ⟨h.row.mv hm fun k hk hin => hn k hk (by simpa using hin), h.lo⟩
theorem JOwn.mvj {B : Nat} {W W' : World} {v u : Value} {L : List (List UInt8)} (h : JOwn B W v L) (hm : Mv W W' u.ownBlock.toList) (hn : ∀ k, v.ownBlock = some k → u.ownBlock ≠ some k) : JOwn B W' v L := ⟨h.row.mv hm fun k hk hin => hn k hk (by simpa using hin), h.lo⟩
/-- A row of one. -/
theorem jown_one (w : World) (s : List UInt8) : JOwn w.heap.size (w.alloc (.cells #[.string (S s)] 9)) (.slice (some ⟨w.heap.size, 0, none⟩) 1 1) [s] :=
  ⟨jrow_low (World.ownsRow_lit (e := 9) (size := 1) w #[.string (S s)] 1 (Nat.le_refl _) (by simp only [maxLen]; omega) rfl) rfl, fun k hk => by simp [Value.ownBlock] at hk; omega⟩
theorem iown_one (w : World) (n : Nat) : IOwn w.heap.size (w.alloc (.cells #[.int .i64 (n : Int)] 3)) (.slice (some ⟨w.heap.size, 0, none⟩) 1 1) [n] :=
  ⟨irow_low (World.ownsRow_lit (e := 3) (size := 1) w #[.int .i64 (n : Int)] 1 (Nat.le_refl _) (by simp only [maxLen]; omega) rfl) rfl, fun k hk => by simp [Value.ownBlock] at hk; omega⟩
/-- Two rows of a call's own: a text is appended to the one, a number to the other. -/
structure TwoRows (B : Nat) (w0 W : World) (v : Value) (A : List (List UInt8)) (u : Value) (L : List Nat) : Prop where
  txt : JOwn B W v A
  num : IOwn B W u L
  ne : ∀ k, u.ownBlock = some k → v.ownBlock ≠ some k
  bel : Below B w0 W
  size : B ≤ W.heap.size
theorem TwoRows.below {B : Nat} {w0 W W' : World} {v u : Value} {A : List (List UInt8)} {L : List Nat} (h : TwoRows B w0 W v A u L) (hb : Below W.heap.size W W') : TwoRows B w0 W' v A u L :=
  ⟨h.txt.below hb, h.num.below hb, h.ne, h.bel.trans (hb.mono h.size), Nat.le_trans h.size hb.size⟩
theorem TwoRows.text {B : Nat} {w0 W W' : World} {v v' u : Value} {A A' : List (List UInt8)} {L : List Nat} (h : TwoRows B w0 W v A u L) (hr : JRow W' v' A') (hm : Mv W W' v.ownBlock.toList) (ho : v'.ownBlock = v.ownBlock ∨ ∀ k, v'.ownBlock = some k → W.heap.size ≤ k) : TwoRows B w0 W' v' A' u L :=
  ⟨h.txt.app hr ho h.size, h.num.mvj hm h.ne, fun k hk hv => by
    rcases ho with ho | ho
    · rw [ho] at hv; exact h.ne k hk hv
    · have h1 := h.num.row.lt k hk
      have h2 := ho k hv
      omega, h.txt.bel h.bel h.size hm, Nat.le_trans h.size hm.size⟩
theorem TwoRows.nums {B : Nat} {w0 W W' : World} {v u u' : Value} {A : List (List UInt8)} {L L' : List Nat} (h : TwoRows B w0 W v A u L) (hr : IRow W' u' L') (hm : Mv W W' u.ownBlock.toList) (ho : u'.ownBlock = u.ownBlock ∨ ∀ k, u'.ownBlock = some k → W.heap.size ≤ k) : TwoRows B w0 W' v A u' L' :=
  ⟨h.txt.mvj hm (fun k hk hu => h.ne k hu hk), h.num.app hr ho h.size, fun k hk hv => by
    rcases ho with ho | ho
    · rw [ho] at hk; exact h.ne k hk hv
    · have h1 := h.txt.row.lt k hv
      have h2 := ho k hk
      omega, h.num.bel h.bel h.size hm, Nat.le_trans h.size hm.size⟩
/-- The one number that lies in a new block. -/
theorem one_num (w : World) (n : Nat) : ∀ j (hj : j < [n].length), (w.alloc (.cells #[.int .i64 (n : Int)] 3)).cell? ⟨w.heap.size, j, none⟩ = some (.int .i64 (([n][j]'hj : Nat) : Int)) := by
  intro j hj
  have : j = 0 := by simp at hj; exact hj
  subst this
  exact (Has.made w 3 #[.int .i64 (n : Int)]).cell 0
theorem two_text (w : World) (s : List UInt8) : (w.alloc (.cells #[.string (S s)] 9)).cell? ⟨w.heap.size, 0, none⟩ = some (.string (S s)) := (Has.made w 9 #[.string (S s)]).cell 0
def vS (v : Value) : Nat := match v with | .string b => b.size | _ => 0
end Go.Proofs.YtjdklifkalnamaaGreatDoor
