/-
  A part of a record is read; a journal's copy of its records; a record is noted: the journal's read, Records, add.
-/
import Derived.Test.YtjdklifkalnamaaGreatDoorJrnSmall
import Derived.Test.YtjdklifkalnamaaGreatDoorJrnStr
import Derived.Test.YtjdklifkalnamaaGreatDoorQuiet
namespace Go.Proofs.YtjdklifkalnamaaGreatDoor
open Go.RowKit
set_option linter.unusedVariables false

theorem jbdn {B : Nat} {w w' : World} (h : Below B w w') (k : Nat) : Below B w (w'.drewN k) := h.trans ⟨rfl, rfl, rfl, Nat.le_refl _, fun _ _ => rfl⟩
/-- What is read as a part: or it is not there, and the part is whatever it is. -/
def RdJPost (w : World) (o : Option (List UInt8 × Nat)) (e : Ending) (w' : World) : Prop :=
  ∃ (p : List UInt8) (st : Nat), e = .returned (.tuple #[.string (S p), .int .i64 (st : Int), .bool o.isSome]) ∧ (∀ q, o = some q → q = (p, st)) ∧ p.length ≤ 50 ∧ Below w.heap.size w w'
section
variable {w : World} {K : JK} {vs vr : Value} {L : List Jrn.Rec} {sure firm : Nat} {dead : Bool} {wr : Nat} {d : Dsk.St}
set_option maxRecDepth 100000 in
set_option maxHeartbeats 2000000 in
theorem jread_any (h : JnAt w K vs vr L sure firm dead wr d) (k link : Nat) (hk : k ≤ 1000000) (hlk : link < 18446744073709551616) :
    Calls Tryz.prog 59 #[.pointer (some ⟨K.gj, 0, none⟩), .int .i64 (k : Int), .int .i64 (link : Int)] w (RdJPost w (Jrn.readP (Jrn.rx d) (K.base + Jrn.usedL L) (K.size - Jrn.usedL L) k link)) := by
  have HGET : Hid (∀ W, Grew w W → Calls Tryz.prog 62 #[.pointer (some ⟨K.gg, 0, none⟩), .int .i64 ((K.base : Int) + ((Jrn.usedL L : Int) + (k : Int)))] W (GReadPost W ((Jrn.rx d (K.base + Jrn.usedL L + k)).1, ((Jrn.rx d (K.base + Jrn.usedL L + k)).2.1 : Int), (Jrn.rx d (K.base + Jrn.usedL L + k)).2.2))) :=
    Lib.hid (fun W hW => by
      have := gget_any (h.below hW.bel).gd ((K.base + Jrn.usedL L + k : Nat) : Int)
      rw [Jrn.rx_eq] at this
      rw [show (K.base : Int) + ((Jrn.usedL L : Int) + (k : Int)) = ((K.base + Jrn.usedL L + k : Nat) : Int) by omega]
      exact this)
  have hroomx := (Jrn.rx_room d).len (K.base + Jrn.usedL L + k)
  have HBF := Lib.hid (fun W => jbefore_any k link hlk W)
  have hsc := Jrn.sc_len k link
  have HCP := Lib.hid (fun (dd : List UInt8) (hdd : dd.length ≤ 47) W => cutPre_any dd (Jrn.sc k link) (by omega) (by omega) W)
  rw [hsc] at HCP
  have hP : Jrn.readP (Jrn.rx d) (K.base + Jrn.usedL L) (K.size - Jrn.usedL L) k link = if k < K.size - Jrn.usedL L ∧ (Jrn.rx d (K.base + Jrn.usedL L + k)).1.take 9 = Jrn.sc k link then some ((Jrn.rx d (K.base + Jrn.usedL L + k)).1.drop 9, (Jrn.rx d (K.base + Jrn.usedL L + k)).2.1) else none := rfl
  have HC : Hid (∀ W, Grew w W → W.cell? ⟨K.gj, 0, none⟩ = some (.pointer (some ⟨K.gg, 0, none⟩)) ∧ W.cell? ⟨K.gj, 1, none⟩ = some (.int .i64 (K.base : Int))) := Lib.hid (fun W hW => ⟨(h.below hW.bel).cs.1, (h.below hW.bel).cs.2.1⟩)
  obtain ⟨-, -, c2, -, c4, -⟩ := h.cs
  obtain ⟨A, cap, rfl, -, -, -⟩ := h.st.any
  rw [Jrn.sts_len L h.shp] at c4
  have hroom := h.room
  have htop := h.top
  have hwr0 : IntKind.i64.wrap ((Jrn.usedL L : Int) + (k : Int)) = (Jrn.usedL L : Int) + (k : Int) := by rw [IntKind.wrap_i64]; omega
  have hwr1 : IntKind.i64.wrap ((K.base : Int) + ((Jrn.usedL L : Int) + (k : Int))) = (K.base : Int) + ((Jrn.usedL L : Int) + (k : Int)) := by rw [IntKind.wrap_i64]; omega
  generalize Jrn.readP (Jrn.rx d) (K.base + Jrn.usedL L) (K.size - Jrn.usedL L) k link = res at hP ⊢
  generalize Jrn.rx d (K.base + Jrn.usedL L + k) = x at HGET hP hroomx
  generalize Jrn.sc k link = sck at HBF HCP hP
  clear h hsc
  obtain ⟨dt, st, cd⟩ := x
  dsimp only at hP HGET hroomx
  unfold GReadPost at HGET
  by_cases hi : Jrn.usedL L + k < K.size
  · have k1 : (Jrn.usedL L : Int) + (k : Int) < (K.size : Int) := by omega
    have hP2 : res = if dt.take 9 = sck then some (dt.drop 9, st) else none := by
      rw [hP]
      by_cases q : dt.take 9 = sck
      · rw [if_pos ⟨by omega, q⟩, if_pos q]
      · rw [if_neg (fun hc => q hc.2), if_neg q]
    have hpick : ∃ (p : List UInt8) (b : Bool), (if dt.take 9 = sck then dt.drop 9 else dt) = p ∧ decide (dt.take 9 = sck) = b ∧ p.length ≤ 50 ∧ ((b = true ∧ res = some (p, st)) ∨ (b = false ∧ res = none)) := by
      by_cases q : dt.take 9 = sck
      · exact ⟨dt.drop 9, true, if_pos q, decide_eq_true q, by rw [List.length_drop]; omega, Or.inl ⟨rfl, by rw [hP2, if_pos q]⟩⟩
      · exact ⟨dt, false, if_neg q, decide_eq_false q, by omega, Or.inr ⟨rfl, by rw [hP2, if_neg q]⟩⟩
    obtain ⟨p, b, hp1, hp2, hp3, hp4⟩ := hpick
    have HCPd := fun W => HCP.out dt hroomx W
    rw [hp1, hp2] at HCPd
    replace HCPd := Lib.hid HCPd
    have HP := Lib.hid (And.intro hp3 hp4)
    clear hp1 hp2 hp3 hp4
    clear hP hP2 hroom htop hi hroomx HCP
    generalize Jrn.usedL L = u at *
    go_enter Tryz.func59, Tryz.ntmps59
    go_upto_region 4 with fail
    clear c2 c4
    refine wp_region_grew (w0 := w) (by kernel_rfl) (by kernel_rfl) (Below.refl _ _) ?_
    refine wpQuiet_step (fun K hK => ?_)
    go_simp
    apply Exists.intro
    refine ⟨fun W hW => ?_, hK _ ?_⟩
    · obtain ⟨c0, c1⟩ := HC.out W hW
      go_simp
      first | done | rfl
    clear hK K
    refine wpQuiet_step (fun K hK => ?_)
    go_simp
    apply Exists.intro
    refine ⟨fun W hW => ?_, hK _ ?_⟩
    · obtain ⟨c0, c1⟩ := HC.out W hW
      go_simp
      first | done | rfl
    clear hK K
    refine wpQuiet_step (fun K hK => ?_)
    go_simp
    apply Exists.intro
    refine ⟨fun W hW => ?_, hK _ ?_⟩
    · obtain ⟨c0, c1⟩ := HC.out W hW
      go_simp
      first | done | rfl
    clear hK K
    refine wpQuiet_step (fun K hK => ?_)
    go_simp
    apply Exists.intro
    refine ⟨fun W hW => ?_, hK _ ?_⟩
    · obtain ⟨c0, c1⟩ := HC.out W hW
      go_simp
      first | done | rfl
    clear hK K
    refine wpQuiet_step (fun K hK => ?_)
    go_simp
    apply Exists.intro
    refine ⟨fun W hW => ?_, hK _ ?_⟩
    · obtain ⟨c0, c1⟩ := HC.out W hW
      go_simp
      first | done | rfl
    clear hK K
    refine wpQuiet_step (fun K hK => ?_)
    go_simp
    apply Exists.intro
    refine ⟨fun W hW => ?_, hK _ ?_⟩
    · obtain ⟨c0, c1⟩ := HC.out W hW
      go_simp
      first | done | rfl
    clear hK K
    refine wpQuiet_step (fun K hK => ?_)
    go_simp
    apply Exists.intro
    refine ⟨fun W hW => ?_, hK _ ?_⟩
    · obtain ⟨c0, c1⟩ := HC.out W hW
      go_simp
      first | done | rfl
    clear hK K
    refine wpQuiet_step (fun K hK => ?_)
    go_simp
    apply Exists.intro
    refine ⟨fun W hW => ?_, hK _ ?_⟩
    · obtain ⟨c0, c1⟩ := HC.out W hW
      go_simp
      first | done | rfl
    clear hK K
    refine wpQuiet_step (fun K hK => ?_)
    go_simp
    apply Exists.intro
    refine ⟨fun W hW => ?_, hK _ ?_⟩
    · obtain ⟨c0, c1⟩ := HC.out W hW
      go_simp
      first | done | rfl
    clear hK K
    refine wpQuiet_step (fun K hK => ?_)
    go_simp
    apply Exists.intro
    refine ⟨fun W hW => ?_, hK _ ?_⟩
    · obtain ⟨c0, c1⟩ := HC.out W hW
      go_simp
      first | done | rfl
    clear hK K
    refine wpQuiet_step (fun K hK => ?_)
    go_simp
    apply Exists.intro
    refine ⟨fun W hW => ?_, hK _ ?_⟩
    · exact Calls.grew_of hW (HGET.out W hW)
    clear hK K
    refine wpQuiet_step (fun K hK => ?_)
    go_simp
    apply Exists.intro
    refine ⟨fun W hW => ?_, hK _ ?_⟩
    · obtain ⟨c0, c1⟩ := HC.out W hW
      go_simp
      first | done | rfl
    clear hK K
    refine wpQuiet_step (fun K hK => ?_)
    go_simp
    apply Exists.intro
    refine ⟨fun W hW => ?_, hK _ ?_⟩
    · obtain ⟨c0, c1⟩ := HC.out W hW
      go_simp
      first | done | rfl
    clear hK K
    refine wpQuiet_step (fun K hK => ?_)
    go_simp
    apply Exists.intro
    refine ⟨fun W hW => ?_, hK _ ?_⟩
    · obtain ⟨c0, c1⟩ := HC.out W hW
      go_simp
      first | done | rfl
    clear hK K
    refine wpQuiet_step (fun K hK => ?_)
    go_simp
    apply Exists.intro
    refine ⟨fun W hW => ?_, hK _ ?_⟩
    · obtain ⟨c0, c1⟩ := HC.out W hW
      go_simp
      first | done | rfl
    clear hK K
    refine wpQuiet_step (fun K hK => ?_)
    go_simp
    apply Exists.intro
    refine ⟨fun W hW => ?_, hK _ ?_⟩
    · obtain ⟨c0, c1⟩ := HC.out W hW
      go_simp
      first | done | rfl
    clear hK K
    refine wpQuiet_step (fun K hK => ?_)
    go_simp
    apply Exists.intro
    refine ⟨fun W hW => ?_, hK _ ?_⟩
    · obtain ⟨c0, c1⟩ := HC.out W hW
      go_simp
      first | done | rfl
    clear hK K
    refine wpQuiet_step (fun K hK => ?_)
    go_simp
    apply Exists.intro
    refine ⟨fun W hW => ?_, hK _ ?_⟩
    · obtain ⟨c0, c1⟩ := HC.out W hW
      go_simp
      first | done | rfl
    clear hK K
    refine wpQuiet_nil ?_
    intro W2 hW2
    have HW2 := Lib.hid hW2.bel
    clear hW2 HC HGET hwr1 hwr0 k1
    go_wp2_with fail
    refine (HBF.out _).mono ?_
    rintro r w3 ⟨rfl, hb3⟩
    have HB3 := Lib.hid (HW2.out.trans (hb3.mono HW2.out.size))
    clear hb3
    go_wp2_with fail
    refine (HCPd.out _).mono ?_
    rintro r w4 ⟨rfl, rfl⟩
    go_wp2_with fail
    go_ret3
    unfold RdJPost
    obtain ⟨h3, h4⟩ := HP.out
    rcases h4 with ⟨rfl, rfl⟩ | ⟨rfl, rfl⟩
    · exact ⟨p, st, rfl, fun y hy => (by injection hy with hy; exact hy.symm), h3, HB3.out⟩
    · exact ⟨p, st, rfl, fun y hy => (by cases hy), h3, HB3.out⟩
  · have k1 : ¬ (Jrn.usedL L : Int) + (k : Int) < (K.size : Int) := by omega
    have k2 : (K.size : Int) ≤ (Jrn.usedL L : Int) + (k : Int) := by omega
    have hP2 : res = none := by rw [hP, if_neg (fun hc => by omega)]
    have HRES := Lib.hid hP2
    clear hP hP2 hroom htop hi
    generalize Jrn.usedL L = u at *
    go_enter Tryz.func59, Tryz.ntmps59
    go_wp2_with fail
    go_ret3
    unfold RdJPost
    exact ⟨[], 0, by rw [HRES.out]; rfl, fun y hy => (by rw [HRES.out] at hy; cases hy), by decide, Below.refl _ _⟩
theorem jnrecords_any (h : JnAt w K vs vr L sure firm dead wr d) : Calls Tryz.prog 23 #[.pointer (some ⟨K.gj, 0, none⟩)] w fun e w' => ∃ u, e = .returned u ∧ JOwn w.heap.size w' u (L.map Prod.fst) ∧ Below w.heap.size w w' := by
  have HW := Lib.hid (jworks_any h)
  have hlen : (L.map Prod.fst).length ≤ 100000 := by
    have h1 := h.room
    have h2 := h.top
    have h3 := Jrn.len_used L
    rw [List.length_map]
    omega
  have HCL := Lib.hid (cloneT_any h.rc hlen)
  obtain ⟨-, -, -, -, -, c5, -⟩ := h.cs
  generalize L.map Prod.fst = T at HCL ⊢
  clear h hlen
  go_enter Tryz.func23, Tryz.ntmps23
  go_wp2_with fail
  refine HW.out.mono ?_
  rintro r w1 ⟨rfl, rfl⟩
  go_wp2_with fail
  refine HCL.out.mono ?_
  rintro r w2 ⟨u, rfl, hr, hb⟩
  go_wp2_with fail
  go_ret
  exact ⟨u, rfl, hr, hb⟩
end
end Go.Proofs.YtjdklifkalnamaaGreatDoor
